/-
  Contracts of the program's functions, of the reference's, and plain lemmas on what they answer (part 5 of 5).
  Each lemma names its conditions.
-/
import Derived.Test.YtmoaacaopphgbaaDoorBun4
import Derived.Test.YtmoaacaopphgbaaDoorBun2
import Derived.Deep.OwnRows
import Derived.Great.Walk
import Derived.Test.YtmoaacaopphgbaaDoorBun3
import Derived.Maps.RangeWalk
/-
  What may not be is encoded as nil; package keep's Hard.
  There are no conditions beyond those that each lemma names.
-/
set_option linter.unusedSimpArgs false
set_option linter.unusedVariables false
namespace Go.Proofs.YtmoaacaopphgbaaDoor
open Go.RowKit Go.Deep
set_option maxRecDepth 100000

set_option maxHeartbeats 2000000 in
theorem wenc11_nil (r : Rcd) (w : World) (hs : r.e.data.size ≤ 1050000) (hm : may10 r = false) : Calls Tryd.prog 44 #[r.val] w fun e w' => e = .returned (.slice none 0 0) ∧ Below w.heap.size w w' := by
  have hmay := fun W => wmay10_any r W hs
  simp only [hm] at hmay
  clear hm
  obtain ⟨hd, ht, hv, ⟨ix, et, kd, dt⟩⟩ := r
  unfold Rcd.val at *
  simp only at *
  obtain ⟨W0, hW0⟩ : ∃ W0, w.alloc (.cells #[.bool hd, .int .i64 ht, .int .i64 hv, .int .i64 ix, .int .i64 et, .int .i64 kd, .string dt] 88) = W0 := ⟨_, rfl⟩
  have hb : Below w.heap.size w W0 := by rw [← hW0]; exact below_one _ _
  have hlt : w.heap.size < W0.heap.size := by rw [← hW0]; simp
  have d0 : W0.cell? ⟨w.heap.size, 0, none⟩ = some (.bool hd) := by rw [← hW0]; exact new_cell10 rfl
  have d1 : W0.cell? ⟨w.heap.size, 1, none⟩ = some (.int .i64 ht) := by rw [← hW0]; exact new_cell10 rfl
  have d2 : W0.cell? ⟨w.heap.size, 2, none⟩ = some (.int .i64 hv) := by rw [← hW0]; exact new_cell10 rfl
  have d3 : W0.cell? ⟨w.heap.size, 3, none⟩ = some (.int .i64 ix) := by rw [← hW0]; exact new_cell10 rfl
  have d4 : W0.cell? ⟨w.heap.size, 4, none⟩ = some (.int .i64 et) := by rw [← hW0]; exact new_cell10 rfl
  have d5 : W0.cell? ⟨w.heap.size, 5, none⟩ = some (.int .i64 kd) := by rw [← hW0]; exact new_cell10 rfl
  have d6 : W0.cell? ⟨w.heap.size, 6, none⟩ = some (.string dt) := by rw [← hW0]; exact new_cell10 rfl
  go_enter Tryd.func44, Tryd.ntmps44
  go_wp2_with fail
  refine (hmay _).mono ?_
  rintro e k1 ⟨rfl, h⟩
  have HB := Lib.hid (hb.trans (h.mono hb.size))
  have lt1 : w.heap.size < k1.heap.size := Nat.lt_of_lt_of_le hlt h.size
  replace d0 := (h.cell (p := ⟨w.heap.size, 0, none⟩) hlt).trans d0
  replace d1 := (h.cell (p := ⟨w.heap.size, 1, none⟩) hlt).trans d1
  replace d2 := (h.cell (p := ⟨w.heap.size, 2, none⟩) hlt).trans d2
  replace d3 := (h.cell (p := ⟨w.heap.size, 3, none⟩) hlt).trans d3
  replace d4 := (h.cell (p := ⟨w.heap.size, 4, none⟩) hlt).trans d4
  replace d5 := (h.cell (p := ⟨w.heap.size, 5, none⟩) hlt).trans d5
  replace d6 := (h.cell (p := ⟨w.heap.size, 6, none⟩) hlt).trans d6
  clear h hb hlt hW0 hmay
  go_wp2
  go_ret
  exact ⟨rfl, HB.out⟩
set_option maxHeartbeats 2000000 in
theorem wsnap11_nil (s : Snp) (w : World) (hc : s.conf.size ≤ 1050000) (hs : s.data.size ≤ 1050000) (hm : maySnp10 s = false) : Calls Tryd.prog 28 #[s.val] w fun e w' => e = .returned (.slice none 0 0) ∧ Below w.heap.size w w' := by
  have hmay := fun W => wmayHead s (s.data.size : Int) W hc
  rw [mayHead_snap, hm] at hmay
  clear hm
  obtain ⟨ix, st, cf, dt⟩ := s
  unfold Snp.val at *
  simp only at *
  obtain ⟨W0, hW0⟩ : ∃ W0, w.alloc (.cells #[.int .i64 ix, .int .i64 st, .string cf, .string dt] 33) = W0 := ⟨_, rfl⟩
  have hb : Below w.heap.size w W0 := by rw [← hW0]; exact below_one _ _
  have d0 : W0.cell? ⟨w.heap.size, 0, none⟩ = some (.int .i64 ix) := by rw [← hW0]; exact new_cell10 rfl
  have d1 : W0.cell? ⟨w.heap.size, 1, none⟩ = some (.int .i64 st) := by rw [← hW0]; exact new_cell10 rfl
  have d2 : W0.cell? ⟨w.heap.size, 2, none⟩ = some (.string cf) := by rw [← hW0]; exact new_cell10 rfl
  have d3 : W0.cell? ⟨w.heap.size, 3, none⟩ = some (.string dt) := by rw [← hW0]; exact new_cell10 rfl
  go_enter Tryd.func28, Tryd.ntmps28
  go_wp2_with fail
  refine (hmay _).mono ?_
  rintro e k1 ⟨rfl, h⟩
  have HB := Lib.hid (hb.trans (h.mono hb.size))
  clear h hb hW0 d0 d1 d2 d3
  go_wp2
  go_ret
  exact ⟨rfl, HB.out⟩
theorem own_some {B : Nat} {A : Option Addr} {n c : Nat} {l : List UInt8} {w : World} (h : OwnB B (.slice A n c) l w) (hl : 1 ≤ l.length) : ∃ g, A = some ⟨g, 0, Option.none⟩ := by
  rcases h.2 with ⟨_, h0⟩ | ⟨g, c', cur, hv, _⟩
  · omega
  · injection hv with e1; exact ⟨g, e1⟩
theorem KB.setH {w : World} {S : Nat → Prop} {g d c : Nat} {k : Kst} {x : Fk} (h : KB w S g d k x c) (t v : Int) (hm : mayHard10 t v = true) : KB ((w.setCell ⟨g, 1, none⟩ (.int .i64 t)).setCell ⟨g, 2, none⟩ (.int .i64 v)) S g d ⟨t, v, k.s, k.log⟩ x c := by
  obtain ⟨h1, h2, h3, T, u, c0, h4, h5, h6, h7, h8, h9, h10, h11⟩ := h
  have o1 : Off (fun j => j = g) w (w.setCell ⟨g, 1, none⟩ (.int .i64 t)) := (Off.refl _ w).set (.inl rfl)
  have o2 : Off (fun j => j = g) w ((w.setCell ⟨g, 1, none⟩ (.int .i64 t)).setCell ⟨g, 2, none⟩ (.int .i64 v)) := o1.set (.inl rfl)
  refine ⟨⟨hm, h1.snap, h1.ents, h1.few⟩, h2, fun j hj => Nat.lt_of_lt_of_le (h3 j hj) o2.size, T, u, c0, h4.off o2 (fun j hj e => by subst e; exact h10 hj), h5, (h6.set 1 (.int .i64 t)).set 2 (.int .i64 v), h7.off o2 (fun j hj e => by subst e; exact own_ne11 keep_ne_entry h6 h7 hj), h8, h9, h10, h11⟩
def hardF (k : Kst) (x : Fk) (t v : Int) : Fk := if mayHard10 t v = true then some (add11 k x (encR10 (hardR t v))) else x
set_option maxHeartbeats 1000000 in
theorem khard_any (S : Nat → Prop) (g d c : Nat) (k : Kst) (x : Fk) (t v : Int) (w : World) (h : KB w S g d k x c) (hc : c ≤ 900000) (hT : Tbl w) (hS : ¬ S 0) :
    Calls Tryd.prog 16 #[.pointer (some ⟨g, 0, none⟩), .agg #[.int .i64 t, .int .i64 v]] w (Kd S g d (hard11 k t v).2 (hardF k x t v) (c + 2) (hard11 k t v).1 w) := by
  have hlt := h.lt
  have ke := fun w A n c => Lib.run_eql_slice_nil (P := Tryd.prog) w 46 5 A n c 0 0 Tryd.underlying46
  obtain ⟨m, hm⟩ : ∃ m, mayHard10 t v = m := ⟨_, rfl⟩
  have hmr : may10 ⟨true, t, v, ⟨0, 0, 0, ByteArray.empty⟩⟩ = m := by
    rw [← hm]; unfold may10 eqEnt10; simp [noEnt]
  obtain ⟨b, hb⟩ : ∃ b, w.heap.size = b := ⟨_, rfl⟩
  obtain ⟨W, hW⟩ : ∃ W, w.alloc (.cells #[.int .i64 t, .int .i64 v] 24) = W := ⟨_, rfl⟩
  have h0 : Below w.heap.size w W := by rw [← hW]; exact below_new _ _
  have hx : Rt W b 24 [.int .i64 t, .int .i64 v] := by rw [← hW, ← hb]; exact Rt.new _ _ _
  have hKW := h.below h0
  have hTW := tbl_keep hT h0
  have b0 := hx.cell (j := 0) rfl
  have b1 := hx.cell (j := 1) rfl
  have hbl := hx.lt
  have H := Lib.hid hKW
  have HT := Lib.hid hTW
  clear hKW hTW hT h
  cases m with
  | false =>
    have e1 : hard11 k t v = (1, k) := by unfold hard11; rw [if_neg (by rw [hm]; simp)]
    have e2 : hardF k x t v = x := by unfold hardF; rw [if_neg (by rw [hm]; simp)]
    rw [e1, e2]
    have hen := wenc11_nil ⟨true, t, v, ⟨0, 0, 0, ByteArray.empty⟩⟩ W (by show ByteArray.empty.size ≤ _; decide) hmr
    have HE := Lib.hid hen
    clear hen hmr hm
    go_enter Tryd.func16, Tryd.ntmps16
    go_wp2_with fail
    refine HE.out.mono ?_
    rintro e w1 ⟨rfl, h1⟩
    go_wp2
    go_ret
    refine Kd.before (Off.of_below (h0.trans (h1.mono h0.size))) ⟨rfl, (H.out.below h1).more (fun j hj => .inl hj) (Grw.lt (H.out.below h1).lt (Nat.le_refl _)) (by omega), Off.refl _ _⟩ hlt
  | true =>
    have e1 : hard11 k t v = (0, ⟨t, v, k.s, k.log⟩) := by unfold hard11; rw [if_pos hm]
    have e2 : hardF k x t v = some (add11 k x (encR10 (hardR t v))) := by unfold hardF; rw [if_pos hm]
    rw [e1, e2]
    obtain ⟨l, hl⟩ : ∃ l, encR10 ⟨true, t, v, ⟨0, 0, 0, ByteArray.empty⟩⟩ = l := ⟨_, rfl⟩
    have hll := enc10_len hmr
    rw [hl] at hll
    have e3 : encR10 (hardR t v) = l := hl
    rw [e3]
    have HL := Lib.hid hl
    have HM := Lib.hid hm
    clear hl e3 e2 e1 hmr hm
    go_enter Tryd.func16, Tryd.ntmps16
    go_wp2_with fail
    refine (wenc_v true t v 0 0 0 ByteArray.empty l W (by decide) HT.out HL.out).mono ?_
    rintro e w1 ⟨v1, rfl, hv1, h1⟩
    obtain ⟨A7, c7, rfl⟩ := own_slice hv1
    obtain ⟨g7, rfl⟩ := own_some hv1 (by omega)
    obtain ⟨q7, hq7⟩ : ∃ q7, l.length = q7 := ⟨_, rfl⟩
    rw [hq7] at hv1 ⊢
    have hK1 := H.out.below h1
    have had := kadd_any S g d c k x (some ⟨g7, 0, none⟩) q7 c7 l w1 hK1 hc (safe_fresh hv1 H.out.lt) (by omega) hq7.symm (tbl_keep HT.out h1) hS
    have HA := Lib.hid had
    replace b0 := (h1.cell (p := ⟨b, 0, none⟩) hbl).trans b0
    replace b1 := (h1.cell (p := ⟨b, 1, none⟩) hbl).trans b1
    have hbl1 : b < w1.heap.size := Nat.lt_of_lt_of_le hbl h1.size
    have hSb : ¬ S b := fun e => by have := hlt b e; omega
    have HO1 := Lib.hid (Off.of_below (S := S) (h0.trans (h1.mono h0.size)))
    clear had hq7 hv1 h1 h0
    go_wp2_with fail
    refine HA.out.mono ?_
    rintro e w2 ⟨rfl, hK2, hO2⟩
    have b2 := (hO2.cell (p := ⟨b, 0, none⟩) hbl1 hSb).trans b0
    have b3 := (hO2.cell (p := ⟨b, 1, none⟩) hbl1 hSb).trans b1
    obtain ⟨T2, v2, c2, _, _, hx2, _, _, hSg, _⟩ := hK2.ex
    have d1 := hx2.cell (j := 1) (v := .int .i64 k.ht) rfl
    have d2 := hx2.cell (j := 2) (v := .int .i64 k.hv) rfl
    have f1 := hx2.frz 1
    have f2 := hx2.frz 2
    have hKH := hK2.setH t v HM.out
    have hset : Off (fun j => j = g) w2 ((w2.setCell ⟨g, 1, none⟩ (.int .i64 t)).setCell ⟨g, 2, none⟩ (.int .i64 v)) := ((Off.refl (fun j => j = g) w2).set (.inl rfl)).set (.inl rfl)
    have HK := Lib.hid (And.intro hKH (And.intro hset hK2.lt))
    have hSg0 : S g := by
      obtain ⟨_, _, _, _, _, _, _, _, h9, _⟩ := hK1.ex
      exact h9
    clear hx2 hKH hset hK2 b0 b1
    go_wp2
    go_ret
    obtain ⟨i1, i2, i3⟩ := HK.out
    refine Kd.before HO1.out ⟨rfl, i1.more (fun j hj => ?_) (Grw.lt hK1.lt (Nat.le_trans hO2.size i2.size)) (Nat.le_refl _), hO2.trans i2 (fun j hj => by subst hj; exact .inl hSg0)⟩ hlt
    rcases hj with hj | hj
    · exact .inl hj
    · exact .inr ⟨hj.1, Nat.lt_of_lt_of_le hj.2 i2.size⟩
end Go.Proofs.YtmoaacaopphgbaaDoor
/-
  Package keep's Write.
  There are no conditions beyond those that each lemma names.
-/
set_option linter.unusedSimpArgs false
set_option linter.unusedVariables false
namespace Go.Proofs.YtmoaacaopphgbaaDoor
open Go.RowKit Go.Deep
set_option maxRecDepth 100000

def writeF (k : Kst) (x : Fk) (l : List Ent) : Fk := if l ≠ [] ∧ (write11 k l).1 = 0 then some (add11 k x (encs10 (l.map entR))) else x
/-- entries put into a keep's log -/
theorem KB.putL {w w' : World} {S : Nat → Prop} {g d c : Nat} {k' : Kst} {x : Fk} {T : Nat → Prop} {v v' : Value} {c0 : Nat} (hpos : ∀ b f, x = some (b, f) → 1 ≤ b.length) (hlt : ∀ j, S j → j < w.heap.size) (hP : PD w T d (files11 x) c0) (hc : c0 ≤ c) (hTS : ∀ j, T j → S j) (hSg : S g) (hTg : ¬ T g) (hv : ∀ j, v.ownBlock = some j → S j ∧ ¬ T j)
    (hk' : KOk k') (hx' : Rt w' g 75 (kcs11 d k' v' (size11 x))) (hO' : OwnEn 0 v' k'.log w') (hown : v'.ownBlock = v.ownBlock ∨ ∀ j, v'.ownBlock = some j → w.heap.size ≤ j) (ho : Off (fun j => j = g ∨ v.ownBlock = some j) w w') : KB w' (Grw S w w') g d k' x c ∧ Off S w w' := by
  refine ⟨⟨hk', hpos, Grw.lt hlt ho.size, T, v', c0, hP.off ho (fun j hj e => ?_), hc, hx', hO', fun j hj => .inl (hTS j hj), .inl hSg, hTg, fun j hj => ?_⟩, ho.mono fun j hj => ?_⟩
  · rcases e with e | e
    · subst e; exact hTg hj
    · exact (hv j e).2 hj
  · rcases hown with h | h
    · rw [h] at hj; exact ⟨.inl (hv j hj).1, (hv j hj).2⟩
    · have h1 := h j hj
      have h2 := (OwnEn.lt hO' j hj).2
      exact ⟨.inr ⟨h1, h2⟩, fun e => by have := hlt j (hTS j e); omega⟩
  · rcases hj with hj | hj
    · subst hj; exact .inl hSg
    · exact .inl (hv j hj).1
set_option maxHeartbeats 1000000 in
theorem kwrite_any (S : Nat → Prop) (g d c : Nat) (k : Kst) (x : Fk) (A : Option Addr) (n q : Nat) (l : List Ent) (w : World) (h : KB w S g d k x c) (hc : c ≤ 900000) (hE : Ens (fun j => ¬ S j) w (.slice A n q) l) (hl : l.length ≤ 80) (hd : ∀ e ∈ l, e.data.size ≤ 1050000) (hib : ∀ e ∈ l, -9223372036854775808 ≤ e.ix ∧ e.ix ≤ 9223372036854775807) (hT : Tbl w) (hS : ¬ S 0) :
    Calls Tryd.prog 15 #[.pointer (some ⟨g, 0, none⟩), .slice A n q] w (Kd S g d (write11 k l).2 (writeF k x l) (c + 2) (write11 k l).1 w) := by
  have hlt := h.lt
  have hnl := hE.len.1
  by_cases h0 : n = 0
  · have hl0 : l = [] := List.eq_nil_of_length_eq_zero (by omega)
    subst hl0; subst h0
    have e2 : writeF k x [] = x := by unfold writeF; rw [if_neg (by simp)]
    rw [e2]
    show Calls _ _ _ _ (Kd S g d k x (c + 2) 0 w)
    have H := Lib.hid h
    clear h hE hnl e2
    go_enter Tryd.func15, Tryd.ntmps15
    go_wp2
    go_ret
    exact ⟨rfl, H.out.more (fun j hj => .inl hj) (Grw.lt hlt (Nat.le_refl _)) (by omega), Off.refl _ _⟩
  · have hl0 : 0 < l.length := by omega
    have hnb : ((n : Int) == 0) = false := by simp; omega
    obtain ⟨a, rfl⟩ : ∃ a, A = some a := by
      obtain ⟨g1, o1, e, _⟩ := hE.at_ 0 hl0
      exact ⟨_, e⟩
    obtain ⟨T, v, c0, hP, hc0, hx, hO, hTS, hSg, hTg, hv⟩ := h.ex
    obtain ⟨A2, c2, rfl⟩ := hO.slice
    obtain ⟨m, hm⟩ : ∃ m, k.log.length = m := ⟨_, rfl⟩
    rw [hm] at hO hx hv
    have hix := maySnp10_is h.ok.snap
    have hfew := h.ok.few
    obtain ⟨i0, hi0⟩ : ∃ i0, (l[0]'hl0).ix = i0 := ⟨_, rfl⟩
    have hb0 := hib l[0] (List.getElem_mem hl0)
    rw [hi0] at hb0
    obtain ⟨⟨r, k'⟩, hr⟩ : ∃ p, write11 k l = p := ⟨_, rfl⟩
    have hck := kcheck_any g 1 k l A2 m c2 a n q _ w (hx.cell (j := 3) rfl) (hx.cell (j := 7) rfl) hm.symm hE (by omega) i0 hl0 hi0 hb0 ⟨hix.1, hix.2.1⟩ (by omega) (by omega) hd r (by rw [hr])
    have HC := Lib.hid hck
    have H := Lib.hid h
    have HE := Lib.hid hE
    have HR := Lib.hid hr
    have HNL := Lib.hid hnl
    have HI0 := Lib.hid hi0
    have hlne : l ≠ [] := fun e => by rw [e] at hl0; simp at hl0
    rw [hr]
    by_cases hr0 : r = 0
    · subst hr0
      have e2 : writeF k x l = some (add11 k x (encs10 (l.map entR))) := by unfold writeF; rw [if_pos ⟨hlne, by rw [hr]⟩]
      rw [e2]
      have HOK' := Lib.hid (write11_ok h.ok hr)
      have hp := hr
      rw [write11_1 hl0 hi0] at hp
      have hfit : fits11 k i0 = true ∧ k' = put11 k i0 l := by
        split at hp
        · rename_i hq
          split at hp
          · simp at hp
          · simp only [Prod.mk.injEq, true_and] at hp; exact ⟨hq.1, hp.symm⟩
        · simp at hp
      have HF := Lib.hid hfit
      have HTW := Lib.hid hT
      have hel := encs10_len (l.map entR)
      rw [List.length_map] at hel
      have HEL := Lib.hid hel
      have HEb := Lib.hid (hE.mono (M := fun j => j < w.heap.size) fun j _ hl => hl)
      have hst : 0 < w.heap.size := cell_lt (hT 0 (by omega))
      clear hck h hE hr hnl hi0 hp hfit hP hx hO hv hm hel hix
      go_enter Tryd.func15, Tryd.ntmps15
      go_wp2_with fail
      refine HC.out.mono ?_
      rintro e w1 ⟨rfl, h1⟩
      go_wp2_with fail
      refine (kaddE_any w.heap.size _ n q l w1 (.slice none 0 0) ((HEb.out.below h1).mono (fun j _ _ e => by cases e)) h1.size (by omega) hd [] (ownB_nil _ _) (by simp) (tbl_keep HTW.out h1) hst).mono ?_
      rintro e w2 ⟨v2, rfl, hv2, h2, _⟩
      rw [List.nil_append] at hv2
      obtain ⟨A7, c7, rfl⟩ := own_slice hv2
      obtain ⟨q7, hq7⟩ : ∃ q7, (encs10 (l.map entR)).length = q7 := ⟨_, rfl⟩
      rw [hq7] at hv2 ⊢
      have hb12 := h1.trans h2
      have hK2 := H.out.below hb12
      have had := kadd_any S g d c k x A7 q7 c7 (encs10 (l.map entR)) w2 hK2 hc (safe_fresh hv2 hlt) (by have := HEL.out; omega) hq7.symm (tbl_keep HTW.out hb12) hS
      have HA := Lib.hid had
      have HB12 := Lib.hid hb12
      have HE2 := Lib.hid (HE.out.below hb12)
      have HK2 := Lib.hid hK2
      clear had hq7 hv2 h1 h2 hK2
      go_wp2_with fail
      refine HA.out.mono ?_
      rintro e w3 ⟨rfl, hK3, hO3⟩
      have hE3 := HE2.out.off hO3
      obtain ⟨T3, v3, c3, hP3, hc3, hx3, hOr3, hTS3, hSg3, hTg3, hv3⟩ := hK3.ex
      have hK3p := hK3.pos
      have hK3l := hK3.lt
      obtain ⟨A4, c4, rfl⟩ := hOr3.slice
      obtain ⟨m4, hm4⟩ : ∃ m4, k.log.length = m4 := ⟨_, rfl⟩
      rw [hm4] at hOr3 hx3 hv3
      have HX3 := Lib.hid hx3
      have HOr3 := Lib.hid hOr3
      clear hK3 hx3 hOr3
      -- REGION
      go_wp2_with fail
      replace hE3 : Ens _ w3.drew _ _ := hE3
      replace HX3 := Lib.hid (show Rt w3.drew _ _ _ from HX3.out)
      replace HOr3 := Lib.hid (show OwnEn 0 _ _ w3.drew from HOr3.out)
      replace hO3 : Off S w2 w3.drew := hO3.drew
      replace hP3 : PD w3.drew _ _ _ _ := hP3
      replace hK3l : ∀ j, Grw S w2 w3 j → j < w3.drew.heap.size := hK3l
      have hsz3 : w3.drew.heap.size = w3.heap.size := rfl
      refine wp_region_noPanic ?_
      refine wp_region_held_drew (S := fun W => True) (by kernel_rfl) ?_ (fun hHeld => ?_)
      · exact trivial
      generalize w3.drew = wz at *
      refine wpAnyH_take (i := 0) (oi := { dst := some 27, op := Op.move (Operand.tmp 0), type := 28, pos := "keep.go:79", after := #[], guard := none }) (v := .pointer (some ⟨g, 0, none⟩)) rfl (by kernel_rfl) (by kernel_rfl) (by kernel_rfl) (fun _ _ _ h => h) (Or.inl ⟨by rfl, fun w hSw => ?_⟩) (by assumption) ?_
      · (try dsimp only at hSw)
        go_simp
      try simp only [Act.put, List.setIfInBounds_toArray, List.set_cons_zero, List.set_cons_succ]
      refine wpAnyH_take (i := 1) (oi := { dst := some 28, op := Op.nilCheck (Operand.tmp 27), type := 0, pos := "keep.go:79", after := #[{ on := 0, ground := Ground.data }], guard := none }) (v := .pointer (some ⟨g, 0, none⟩)) rfl (by kernel_rfl) (by kernel_rfl) (by kernel_rfl) (fun _ _ _ h => h) (Or.inl ⟨by rfl, fun w hSw => ?_⟩) (by assumption) ?_
      · (try dsimp only at hSw)
        go_simp
      try simp only [Act.put, List.setIfInBounds_toArray, List.set_cons_zero, List.set_cons_succ]
      refine wpAnyH_take (i := 2) (oi := { dst := some 29, op := Op.fieldAddr 75 (Operand.tmp 28) 1, type := 0, pos := "keep.go:79", after := #[{ on := 1, ground := Ground.data }], guard := none }) (v := .pointer (some ⟨g, 1, none⟩)) rfl (by kernel_rfl) (by kernel_rfl) (by kernel_rfl) (fun _ _ _ h => h) (Or.inl ⟨by rfl, fun w hSw => ?_⟩) (by assumption) ?_
      · (try dsimp only at hSw)
        go_simp
      try simp only [Act.put, List.setIfInBounds_toArray, List.set_cons_zero, List.set_cons_succ]
      refine wpAnyH_take (i := 3) (oi := { dst := some 30, op := Op.move (Operand.tmp 1), type := 22, pos := "keep.go:79", after := #[], guard := none }) (v := .slice (some a) n q) rfl (by kernel_rfl) (by kernel_rfl) (by kernel_rfl) (fun _ _ _ h => h) (Or.inl ⟨by rfl, fun w hSw => ?_⟩) (by assumption) ?_
      · (try dsimp only at hSw)
        go_simp
      try simp only [Act.put, List.setIfInBounds_toArray, List.set_cons_zero, List.set_cons_succ]
      refine wpAnyH_ready (rs := [4]) (by kernel_rfl) (by simp) ?_
      refine AllReadyH.cons (o := { dst := some 31, op := Op.call { callee := Callee.value (Operand.func 43), args := #[Operand.tmp 30], argTypes := #[22] }, type := 22, pos := "keep.go:79", after := #[{ on := 3, ground := Ground.data }], guard := none }) rfl (fun K hK => ?_) AllReadyH.nil
      go_simp
      go_at_call 43
      refine (kcopyE_any _ _ n q l wz hE3 (by omega) hd).mono ?_
      rintro e w4 ⟨v4, rfl, hv4, h4⟩
      obtain ⟨A5, c5, rfl⟩ := hv4.slice
      obtain ⟨g5, o5, rfl, hE5⟩ : ∃ g5 o5, A5 = some ⟨g5, o5, Option.none⟩ ∧ Ens (fun j => (Value.slice A5 l.length c5).ownBlock = some j) w4 (.slice A5 l.length c5) l := by
        have hE4 := Ens.of_own hv4
        obtain ⟨g5, o5, e5, _⟩ := hE4.at_ 0 hl0
        exact ⟨g5, o5, e5, hE4⟩
      obtain ⟨n5, hn5⟩ : ∃ n5, l.length = n5 := ⟨_, rfl⟩
      rw [hn5] at hE5 ⊢
      have hpt := kput_any 75 g 1 _ k i0 l A4 m4 c4 ⟨g5, o5, none⟩ n5 c5 _ w4 keep_ne_entry (HX3.out.below h4) rfl rfl (HOr3.out.below h4) hE5 (by omega) (by rw [List.getElem?_eq_getElem hl0]; exact congrArg some HI0.out) HF.out.1 (by rw [hm4]; omega) (by have := maySnp10_is H.out.ok.snap; exact ⟨this.1, this.2.1⟩)
      have HP := Lib.hid hpt
      clear hpt hn5 hv4 hE5 hE3
      refine hK.out _ _ ?_ (fun hHeld => ?_)
      · exact trivial
      clear hK K
      try simp only [Act.put, List.setIfInBounds_toArray, List.set_cons_zero, List.set_cons_succ]
      refine wpAnyH_ready (rs := [5]) (by kernel_rfl) (by simp) ?_
      refine AllReadyH.cons (o := { dst := some 32, op := Op.call { callee := Callee.value (Operand.func 42), args := #[Operand.tmp 29, Operand.tmp 31], argTypes := #[52, 22] }, type := 0, pos := "keep.go:79", after := #[{ on := 2, ground := Ground.data }, { on := 4, ground := Ground.data }, { on := 4, ground := Ground.chain }], guard := none }) rfl (fun K hK => ?_) AllReadyH.nil
      go_simp
      go_at_call 42
      refine HP.out.mono ?_
      rintro e w5 ⟨v5, rfl, hx5, hOr5, hown5, hO5⟩
      refine hK.out _ _ ?_ (fun hHeld => ?_)
      · exact trivial
      clear hK K
      try simp only [Act.put, List.setIfInBounds_toArray, List.set_cons_zero, List.set_cons_succ]
      refine wpAnyH_done (by kernel_rfl) ?_ _
      refine NoPanic.normal ?_
      go_wp2
      go_ret
      have hown6 : v5.ownBlock = (Value.slice A4 m4 c4).ownBlock ∨ ∀ j, v5.ownBlock = some j → w4.heap.size ≤ j := by
        rcases hown5 with h | h
        · exact .inl h
        · exact .inr fun j hj => by rw [h] at hj; injection hj with hj; omega
      have hend := KB.putL (S := Grw S w2 w3) (c := c + 2) (k' := k') hK3p (fun j hj => Nat.lt_of_lt_of_le (hK3l j hj) h4.size) (hP3.below h4) hc3 hTS3 hSg3 hTg3 hv3 HOK'.out (by rw [HF.out.2]; exact hx5) (by rw [HF.out.2]; exact hOr5) hown6 hO5
      have hO4 := hO3.then_ h4
      refine Kd.before (Off.of_below HB12.out) (Kd.then_ (w1 := w4) hO4 ⟨rfl, hend.1.more ?_ (Grw.lt (Grw.lt HK2.out.lt hO4.size) hO5.size) (Nat.le_refl _), hend.2.mono ?_⟩ HK2.out.lt) hlt
      · rintro j (hj | hj)
        · rcases hj with hj | hj
          · exact .inl (.inl hj)
          · exact .inl (.inr ⟨hj.1, Nat.lt_of_lt_of_le hj.2 (by rw [← hsz3]; exact h4.size)⟩)
        · exact .inr hj
      · rintro j (hj | hj)
        · exact .inl (.inl hj)
        · exact .inl (.inr ⟨hj.1, Nat.lt_of_lt_of_le hj.2 (by rw [← hsz3]; exact h4.size)⟩)
    · have hb := write11_bad hr hr0
      have e2 : writeF k x l = x := by unfold writeF; rw [if_neg (fun hh => hr0 (by rw [hr] at hh; exact hh.2))]
      rw [e2, hb.1]
      have hrb : (r != 0) = true := by simpa using hr0
      clear hck h hE hr hnl hi0 hP hx hO hv hm hb hix
      go_enter Tryd.func15, Tryd.ntmps15
      go_wp2_with fail
      refine HC.out.mono ?_
      rintro e w1 ⟨rfl, h1⟩
      go_wp2
      go_ret
      refine Kd.before (Off.of_below h1) ⟨rfl, (H.out.below h1).more (fun j hj => .inl hj) (Grw.lt (H.out.below h1).lt (Nat.le_refl _)) (by omega), Off.refl _ _⟩ hlt
end Go.Proofs.YtmoaacaopphgbaaDoor
/-
  Package keep's Snap.
  There are no conditions beyond those that each lemma names.
-/
set_option linter.unusedSimpArgs false
set_option linter.unusedVariables false
namespace Go.Proofs.YtmoaacaopphgbaaDoor
open Go.RowKit Go.Deep
set_option maxRecDepth 100000

def snapF (k : Kst) (x : Fk) (s : Snp) : Fk := if (snap11 k s).1 = 0 then some (whole11 (snap11 k s).2, (whole11 (snap11 k s).2).length) else x
theorem KB.setS {w : World} {S : Nat → Prop} {g d c : Nat} {k k' : Kst} {x : Fk} {v' : Value} (h : KB w S g d k x c) (hk' : KOk k') (hO' : OwnEn 0 v' k'.log w) (hn : ∀ j, v'.ownBlock = some j → ¬ S j) : KB (((((((w.setCell ⟨g, 1, none⟩ (.int .i64 k'.ht)).setCell ⟨g, 2, none⟩ (.int .i64 k'.hv)).setCell ⟨g, 3, none⟩ (.int .i64 k'.s.ix)).setCell ⟨g, 4, none⟩ (.int .i64 k'.s.st)).setCell ⟨g, 5, none⟩ (.string k'.s.conf)).setCell ⟨g, 6, none⟩ (.string k'.s.data)).setCell ⟨g, 7, none⟩ (v')) (fun j => S j ∨ v'.ownBlock = some j) g d k' x c ∧ Off (fun j => j = g) w (((((((w.setCell ⟨g, 1, none⟩ (.int .i64 k'.ht)).setCell ⟨g, 2, none⟩ (.int .i64 k'.hv)).setCell ⟨g, 3, none⟩ (.int .i64 k'.s.ix)).setCell ⟨g, 4, none⟩ (.int .i64 k'.s.st)).setCell ⟨g, 5, none⟩ (.string k'.s.conf)).setCell ⟨g, 6, none⟩ (.string k'.s.data)).setCell ⟨g, 7, none⟩ (v')) := by
  obtain ⟨h1, h2, h3, T, u, c0, h4, h5, h6, h7, h8, h9, h10, h11⟩ := h
  have ho : Off (fun j => j = g) w (((((((w.setCell ⟨g, 1, none⟩ (.int .i64 k'.ht)).setCell ⟨g, 2, none⟩ (.int .i64 k'.hv)).setCell ⟨g, 3, none⟩ (.int .i64 k'.s.ix)).setCell ⟨g, 4, none⟩ (.int .i64 k'.s.st)).setCell ⟨g, 5, none⟩ (.string k'.s.conf)).setCell ⟨g, 6, none⟩ (.string k'.s.data)).setCell ⟨g, 7, none⟩ (v')) := ((((((((Off.refl (fun j => j = g) w).set (.inl rfl)).set (.inl rfl)).set (.inl rfl)).set (.inl rfl)).set (.inl rfl)).set (.inl rfl)).set (.inl rfl))
  refine ⟨⟨hk', h2, fun j hj => ?_, T, v', c0, h4.off ho (fun j hj e => by subst e; exact h10 hj), h5, (((((((h6.set 1 (.int .i64 k'.ht)).set 2 (.int .i64 k'.hv)).set 3 (.int .i64 k'.s.ix)).set 4 (.int .i64 k'.s.st)).set 5 (.string k'.s.conf)).set 6 (.string k'.s.data)).set 7 (v')), hO'.off ho (fun j hj e => by subst e; exact hn _ hj h9), fun j hj => .inl (h8 j hj), .inl h9, h10, fun j hj => ⟨.inr hj, fun e => hn j hj (h8 j e)⟩⟩, ho⟩
  rcases hj with hj | hj
  · exact Nat.lt_of_lt_of_le (h3 j hj) ho.size
  · exact Nat.lt_of_lt_of_le (hO'.lt j hj).2 ho.size
set_option maxHeartbeats 1000000 in
theorem ksnap_any (S : Nat → Prop) (g d c : Nat) (k : Kst) (x : Fk) (ix st : Int) (cf dt : ByteArray) (w : World) (h : KB w S g d k x c) (hc : c ≤ 900000) (hT : Tbl w) (hS : ¬ S 0) (hcs : cf.size ≤ 1050000) (hds : dt.size ≤ 1050000) :
    Calls Tryd.prog 23 #[.pointer (some ⟨g, 0, none⟩), .agg #[.int .i64 ix, .int .i64 st, .string cf, .string dt]] w (Kd S g d (snap11 k ⟨ix, st, cf, dt⟩).2 (snapF k x ⟨ix, st, cf, dt⟩) (c + 2) (snap11 k ⟨ix, st, cf, dt⟩).1 w) := by
  have hlt := h.lt
  have ke := fun w A n c => Lib.run_eql_slice_nil (P := Tryd.prog) w 46 5 A n c 0 0 Tryd.underlying46
  obtain ⟨b, hb⟩ : ∃ b, w.heap.size = b := ⟨_, rfl⟩
  obtain ⟨W, hW⟩ : ∃ W, w.alloc (.cells #[.int .i64 ix, .int .i64 st, .string cf, .string dt] 33) = W := ⟨_, rfl⟩
  have h0 : Below w.heap.size w W := by rw [← hW]; exact below_new _ _
  have hx : Rt W b 33 [.int .i64 ix, .int .i64 st, .string cf, .string dt] := by rw [← hW, ← hb]; exact Rt.new _ _ _
  have hKW := h.below h0
  have hTW := tbl_keep hT h0
  have b0 := hx.cell (j := 0) rfl
  have b1 := hx.cell (j := 1) rfl
  have b2 := hx.cell (j := 2) rfl
  have b3 := hx.cell (j := 3) rfl
  have hbl := hx.lt
  obtain ⟨m, hm⟩ : ∃ m, maySnp10 ⟨ix, st, cf, dt⟩ = m := ⟨_, rfl⟩
  have HX := Lib.hid hx
  cases m with
  | false =>
    have e1 : snap11 k ⟨ix, st, cf, dt⟩ = (1, k) := by unfold snap11; rw [if_neg (by rw [hm]; simp)]
    have e2 : snapF k x ⟨ix, st, cf, dt⟩ = x := by unfold snapF; rw [if_neg (by rw [e1]; simp)]
    rw [e1, e2]
    have hen := wsnap11_nil ⟨ix, st, cf, dt⟩ W hcs hds hm
    have HE := Lib.hid hen
    have H := Lib.hid hKW
    have hend : ∀ w1, Below W.heap.size W w1 → Kd S g d k x (c + 2) 1 w (.returned (.int .i64 1)) w1 := fun w1 h1 => Kd.before (Off.of_below (h0.trans (h1.mono h0.size))) ⟨rfl, (H.out.below h1).more (fun j hj => .inl hj) (Grw.lt (H.out.below h1).lt (Nat.le_refl _)) (by omega), Off.refl _ _⟩ hlt
    have HEND := Lib.hid hend
    clear hen hm h hKW hTW hT hend
    go_enter Tryd.func23, Tryd.ntmps23
    go_wp2_with fail
    refine HE.out.mono ?_
    rintro e w1 ⟨rfl, h1⟩
    go_wp2_with fail
    replace h1 : Below W.heap.size W w1.drew := h1.drew
    refine wp_region_noPanic ?_
    refine wp_region_held_drew (S := fun W => True) (by kernel_rfl) ?_ (fun hHeld => ?_)
    · exact trivial
    generalize w1.drew = wz at *
    refine wpAnyH_take (i := 0) (oi := { dst := some 12, op := Op.move (Operand.tmp 5), type := 46, pos := "keep.go:100", after := #[], guard := none }) (v := .slice none 0 0) rfl (by kernel_rfl) (by kernel_rfl) (by kernel_rfl) (fun _ _ _ h => h) (Or.inl ⟨by rfl, fun w hSw => ?_⟩) (by assumption) ?_
    · (try dsimp only at hSw)
      go_simp
    try simp only [Act.put, List.setIfInBounds_toArray, List.set_cons_zero, List.set_cons_succ]
    refine wpAnyH_take (i := 1) (oi := { dst := some 13, op := Op.binOp BinOp.eql 46 (Operand.tmp 12) (Operand.const (Value.slice none 0 0)) 46, type := 4, pos := "keep.go:100", after := #[{ on := 0, ground := Ground.data }], guard := none }) (v := .bool true) rfl (by kernel_rfl) (by kernel_rfl) (by kernel_rfl) (fun _ _ _ h => h) (Or.inl ⟨by rfl, fun w hSw => ?_⟩) (by assumption) ?_
    · (try dsimp only at hSw)
      go_simp
    try simp only [Act.put, List.setIfInBounds_toArray, List.set_cons_zero, List.set_cons_succ]
    refine wpAnyH_take (i := 2) (oi := { dst := some 14, op := Op.move (Operand.tmp 13), type := 4, pos := "keep.go:100", after := #[{ on := 1, ground := Ground.data }], guard := none }) (v := .bool true) rfl (by kernel_rfl) (by kernel_rfl) (by kernel_rfl) (fun _ _ _ h => h) (Or.inl ⟨by rfl, fun w hSw => ?_⟩) (by assumption) ?_
    · (try dsimp only at hSw)
      go_simp
    try simp only [Act.put, List.setIfInBounds_toArray, List.set_cons_zero, List.set_cons_succ]
    refine wpAnyH_take (i := 3) (oi := { dst := some 15, op := Op.fieldAddr 33 (Operand.tmp 3) 0, type := 0, pos := "keep.go:100", after := #[{ on := 2, ground := Ground.guard }], guard := some (2, false) }) (v := undef) rfl (by kernel_rfl) (by kernel_rfl) (by kernel_rfl) (fun _ _ _ h => h) (Or.inr ⟨by rfl, rfl⟩) (by assumption) ?_
    try simp only [Act.put, List.setIfInBounds_toArray, List.set_cons_zero, List.set_cons_succ]
    refine wpAnyH_take (i := 4) (oi := { dst := some 16, op := Op.load 2 (Operand.tmp 15), type := 2, pos := "keep.go:100", after := #[{ on := 3, ground := Ground.data }, { on := 2, ground := Ground.guard }], guard := some (2, false) }) (v := undef) rfl (by kernel_rfl) (by kernel_rfl) (by kernel_rfl) (fun _ _ _ h => h) (Or.inr ⟨by rfl, rfl⟩) (by assumption) ?_
    try simp only [Act.put, List.setIfInBounds_toArray, List.set_cons_zero, List.set_cons_succ]
    refine wpAnyH_take (i := 5) (oi := { dst := some 17, op := Op.move (Operand.tmp 0), type := 28, pos := "keep.go:100", after := #[{ on := 2, ground := Ground.guard }], guard := some (2, false) }) (v := undef) rfl (by kernel_rfl) (by kernel_rfl) (by kernel_rfl) (fun _ _ _ h => h) (Or.inr ⟨by rfl, rfl⟩) (by assumption) ?_
    try simp only [Act.put, List.setIfInBounds_toArray, List.set_cons_zero, List.set_cons_succ]
    refine wpAnyH_take (i := 6) (oi := { dst := some 18, op := Op.nilCheck (Operand.tmp 17), type := 0, pos := "keep.go:100", after := #[{ on := 5, ground := Ground.data }, { on := 2, ground := Ground.guard }], guard := some (2, false) }) (v := undef) rfl (by kernel_rfl) (by kernel_rfl) (by kernel_rfl) (fun _ _ _ h => h) (Or.inr ⟨by rfl, rfl⟩) (by assumption) ?_
    try simp only [Act.put, List.setIfInBounds_toArray, List.set_cons_zero, List.set_cons_succ]
    refine wpAnyH_take (i := 7) (oi := { dst := some 19, op := Op.fieldAddr 75 (Operand.tmp 18) 1, type := 0, pos := "keep.go:100", after := #[{ on := 6, ground := Ground.data }, { on := 2, ground := Ground.guard }], guard := some (2, false) }) (v := undef) rfl (by kernel_rfl) (by kernel_rfl) (by kernel_rfl) (fun _ _ _ h => h) (Or.inr ⟨by rfl, rfl⟩) (by assumption) ?_
    try simp only [Act.put, List.setIfInBounds_toArray, List.set_cons_zero, List.set_cons_succ]
    refine wpAnyH_take (i := 8) (oi := { dst := some 20, op := Op.fieldAddr 52 (Operand.tmp 19) 1, type := 0, pos := "keep.go:100", after := #[{ on := 7, ground := Ground.data }, { on := 2, ground := Ground.guard }], guard := some (2, false) }) (v := undef) rfl (by kernel_rfl) (by kernel_rfl) (by kernel_rfl) (fun _ _ _ h => h) (Or.inr ⟨by rfl, rfl⟩) (by assumption) ?_
    try simp only [Act.put, List.setIfInBounds_toArray, List.set_cons_zero, List.set_cons_succ]
    refine wpAnyH_take (i := 9) (oi := { dst := some 21, op := Op.fieldAddr 33 (Operand.tmp 20) 0, type := 0, pos := "keep.go:100", after := #[{ on := 8, ground := Ground.data }, { on := 2, ground := Ground.guard }], guard := some (2, false) }) (v := undef) rfl (by kernel_rfl) (by kernel_rfl) (by kernel_rfl) (fun _ _ _ h => h) (Or.inr ⟨by rfl, rfl⟩) (by assumption) ?_
    try simp only [Act.put, List.setIfInBounds_toArray, List.set_cons_zero, List.set_cons_succ]
    refine wpAnyH_take (i := 10) (oi := { dst := some 22, op := Op.load 2 (Operand.tmp 21), type := 2, pos := "keep.go:100", after := #[{ on := 9, ground := Ground.data }, { on := 2, ground := Ground.guard }], guard := some (2, false) }) (v := undef) rfl (by kernel_rfl) (by kernel_rfl) (by kernel_rfl) (fun _ _ _ h => h) (Or.inr ⟨by rfl, rfl⟩) (by assumption) ?_
    try simp only [Act.put, List.setIfInBounds_toArray, List.set_cons_zero, List.set_cons_succ]
    refine wpAnyH_take (i := 11) (oi := { dst := some 23, op := Op.binOp BinOp.lss 2 (Operand.tmp 16) (Operand.tmp 22) 2, type := 4, pos := "keep.go:100", after := #[{ on := 4, ground := Ground.data }, { on := 10, ground := Ground.data }, { on := 2, ground := Ground.guard }], guard := some (2, false) }) (v := undef) rfl (by kernel_rfl) (by kernel_rfl) (by kernel_rfl) (fun _ _ _ h => h) (Or.inr ⟨by rfl, rfl⟩) (by assumption) ?_
    try simp only [Act.put, List.setIfInBounds_toArray, List.set_cons_zero, List.set_cons_succ]
    refine wpAnyH_take (i := 12) (oi := { dst := some 24, op := Op.pick (Operand.tmp 14) (Operand.const (Value.bool true)) (Operand.tmp 23), type := 4, pos := "keep.go:100", after := #[{ on := 2, ground := Ground.data }, { on := 11, ground := Ground.data }], guard := none }) (v := .bool true) rfl (by kernel_rfl) (by kernel_rfl) (by kernel_rfl) (fun _ _ _ h => h) (Or.inl ⟨by rfl, fun w hSw => ?_⟩) (by assumption) ?_
    · (try dsimp only at hSw)
      go_simp
    try simp only [Act.put, List.setIfInBounds_toArray, List.set_cons_zero, List.set_cons_succ]
    refine wpAnyH_done (by kernel_rfl) ?_ _
    refine NoPanic.normal ?_
    go_wp2
    go_ret
    exact HEND.out _ h1
  | true =>
    have H := Lib.hid hKW
    have HT := Lib.hid hTW
    have hg3 : W.cell? ⟨g, 3, none⟩ = some (.int .i64 k.s.ix) := by
      obtain ⟨_, _, _, _, _, hxk, _⟩ := hKW.ex
      exact hxk.cell (j := 3) rfl
    have hgl : g < W.heap.size := cell_lt hg3
    have hsl := snapB10_len hm
    obtain ⟨l, hl⟩ : ∃ l, snapB10 ⟨ix, st, cf, dt⟩ = l := ⟨_, rfl⟩
    rw [hl] at hsl
    have HL := Lib.hid hl
    have HM := Lib.hid hm
    have hix := maySnp10_is hm
    simp only at hix
    by_cases hlo : ix < k.s.ix
    · have e1 : snap11 k ⟨ix, st, cf, dt⟩ = (1, k) := by unfold snap11; rw [if_neg (fun hh => by have h9 := hh.2; simp only at h9; omega)]
      have e2 : snapF k x ⟨ix, st, cf, dt⟩ = x := by unfold snapF; rw [if_neg (by rw [e1]; simp)]
      rw [e1, e2]
      have hend : ∀ w1, Below W.heap.size W w1 → Kd S g d k x (c + 2) 1 w (.returned (.int .i64 1)) w1 := fun w1 h1 => Kd.before (Off.of_below (h0.trans (h1.mono h0.size))) ⟨rfl, (H.out.below h1).more (fun j hj => .inl hj) (Grw.lt (H.out.below h1).lt (Nat.le_refl _)) (by omega), Off.refl _ _⟩ hlt
      have HEND := Lib.hid hend
      clear h hKW hTW hT hend hl hm hx h0
      go_enter Tryd.func23, Tryd.ntmps23
      go_wp2_with fail
      refine (snap_v ix st cf dt l W hcs hds HT.out HL.out).mono ?_
      rintro e w1 ⟨v1, rfl, hv1, h1⟩
      obtain ⟨A7, c7, rfl⟩ := own_slice hv1
      obtain ⟨g7, rfl⟩ := own_some hv1 (by omega)
      obtain ⟨q7, hq7⟩ : ∃ q7, l.length = q7 := ⟨_, rfl⟩
      rw [hq7] at hv1 ⊢
      have HV1 := Lib.hid hv1
      replace b0 := (h1.cell (p := ⟨b, 0, none⟩) hbl).trans b0
      have x3 := (h1.cell (p := ⟨g, 3, none⟩) hgl).trans hg3
      clear hv1 hq7
      go_wp2_with fail
      replace b0 : w1.drew.cell? ⟨b, 0, none⟩ = _ := b0
      replace x3 : w1.drew.cell? ⟨g, 3, none⟩ = _ := x3
      replace h1 : Below W.heap.size W w1.drew := h1.drew
      replace HV1 := Lib.hid (show OwnB W.heap.size _ _ w1.drew from HV1.out)
      refine wp_region_noPanic ?_
      refine wp_region_held_drew (S := fun W => W.cell? ⟨b, 0, none⟩ = some (.int .i64 ix) ∧ W.cell? ⟨g, 3, none⟩ = some (.int .i64 k.s.ix)) (by kernel_rfl) ?_ (fun hHeld => ?_)
      · exact ⟨b0, x3⟩
      generalize w1.drew = wz at *
      refine wpAnyH_take (i := 0) (oi := { dst := some 12, op := Op.move (Operand.tmp 5), type := 46, pos := "keep.go:100", after := #[], guard := none }) (v := .slice (some ⟨g7, 0, none⟩) q7 c7) rfl (by kernel_rfl) (by kernel_rfl) (by kernel_rfl) (fun _ _ _ h => h) (Or.inl ⟨by rfl, fun w hSw => ?_⟩) (by assumption) ?_
      · (try dsimp only at hSw)
        go_simp
      try simp only [Act.put, List.setIfInBounds_toArray, List.set_cons_zero, List.set_cons_succ]
      refine wpAnyH_take (i := 1) (oi := { dst := some 13, op := Op.binOp BinOp.eql 46 (Operand.tmp 12) (Operand.const (Value.slice none 0 0)) 46, type := 4, pos := "keep.go:100", after := #[{ on := 0, ground := Ground.data }], guard := none }) (v := .bool false) rfl (by kernel_rfl) (by kernel_rfl) (by kernel_rfl) (fun _ _ _ h => h) (Or.inl ⟨by rfl, fun w hSw => ?_⟩) (by assumption) ?_
      · (try dsimp only at hSw)
        go_simp
      try simp only [Act.put, List.setIfInBounds_toArray, List.set_cons_zero, List.set_cons_succ]
      refine wpAnyH_take (i := 2) (oi := { dst := some 14, op := Op.move (Operand.tmp 13), type := 4, pos := "keep.go:100", after := #[{ on := 1, ground := Ground.data }], guard := none }) (v := .bool false) rfl (by kernel_rfl) (by kernel_rfl) (by kernel_rfl) (fun _ _ _ h => h) (Or.inl ⟨by rfl, fun w hSw => ?_⟩) (by assumption) ?_
      · (try dsimp only at hSw)
        go_simp
      try simp only [Act.put, List.setIfInBounds_toArray, List.set_cons_zero, List.set_cons_succ]
      refine wpAnyH_take (i := 3) (oi := { dst := some 15, op := Op.fieldAddr 33 (Operand.tmp 3) 0, type := 0, pos := "keep.go:100", after := #[{ on := 2, ground := Ground.guard }], guard := some (2, false) }) (v := .pointer (some ⟨b, 0, none⟩)) rfl (by kernel_rfl) (by kernel_rfl) (by kernel_rfl) (fun _ _ _ h => h) (Or.inl ⟨by rfl, fun w hSw => ?_⟩) (by assumption) ?_
      · (try dsimp only at hSw)
        go_simp
      try simp only [Act.put, List.setIfInBounds_toArray, List.set_cons_zero, List.set_cons_succ]
      refine wpAnyH_take (i := 4) (oi := { dst := some 16, op := Op.load 2 (Operand.tmp 15), type := 2, pos := "keep.go:100", after := #[{ on := 3, ground := Ground.data }, { on := 2, ground := Ground.guard }], guard := some (2, false) }) (v := .int .i64 ix) rfl (by kernel_rfl) (by kernel_rfl) (by kernel_rfl) (fun _ _ _ h => h) (Or.inl ⟨by rfl, fun w hSw => ?_⟩) (by assumption) ?_
      · (try dsimp only at hSw)
        obtain ⟨q0, q1⟩ := hSw
        go_simp
      try simp only [Act.put, List.setIfInBounds_toArray, List.set_cons_zero, List.set_cons_succ]
      refine wpAnyH_take (i := 5) (oi := { dst := some 17, op := Op.move (Operand.tmp 0), type := 28, pos := "keep.go:100", after := #[{ on := 2, ground := Ground.guard }], guard := some (2, false) }) (v := .pointer (some ⟨g, 0, none⟩)) rfl (by kernel_rfl) (by kernel_rfl) (by kernel_rfl) (fun _ _ _ h => h) (Or.inl ⟨by rfl, fun w hSw => ?_⟩) (by assumption) ?_
      · (try dsimp only at hSw)
        go_simp
      try simp only [Act.put, List.setIfInBounds_toArray, List.set_cons_zero, List.set_cons_succ]
      refine wpAnyH_take (i := 6) (oi := { dst := some 18, op := Op.nilCheck (Operand.tmp 17), type := 0, pos := "keep.go:100", after := #[{ on := 5, ground := Ground.data }, { on := 2, ground := Ground.guard }], guard := some (2, false) }) (v := .pointer (some ⟨g, 0, none⟩)) rfl (by kernel_rfl) (by kernel_rfl) (by kernel_rfl) (fun _ _ _ h => h) (Or.inl ⟨by rfl, fun w hSw => ?_⟩) (by assumption) ?_
      · (try dsimp only at hSw)
        go_simp
      try simp only [Act.put, List.setIfInBounds_toArray, List.set_cons_zero, List.set_cons_succ]
      refine wpAnyH_take (i := 7) (oi := { dst := some 19, op := Op.fieldAddr 75 (Operand.tmp 18) 1, type := 0, pos := "keep.go:100", after := #[{ on := 6, ground := Ground.data }, { on := 2, ground := Ground.guard }], guard := some (2, false) }) (v := .pointer (some ⟨g, 1, none⟩)) rfl (by kernel_rfl) (by kernel_rfl) (by kernel_rfl) (fun _ _ _ h => h) (Or.inl ⟨by rfl, fun w hSw => ?_⟩) (by assumption) ?_
      · (try dsimp only at hSw)
        go_simp
      try simp only [Act.put, List.setIfInBounds_toArray, List.set_cons_zero, List.set_cons_succ]
      refine wpAnyH_take (i := 8) (oi := { dst := some 20, op := Op.fieldAddr 52 (Operand.tmp 19) 1, type := 0, pos := "keep.go:100", after := #[{ on := 7, ground := Ground.data }, { on := 2, ground := Ground.guard }], guard := some (2, false) }) (v := .pointer (some ⟨g, 3, none⟩)) rfl (by kernel_rfl) (by kernel_rfl) (by kernel_rfl) (fun _ _ _ h => h) (Or.inl ⟨by rfl, fun w hSw => ?_⟩) (by assumption) ?_
      · (try dsimp only at hSw)
        go_simp
      try simp only [Act.put, List.setIfInBounds_toArray, List.set_cons_zero, List.set_cons_succ]
      refine wpAnyH_take (i := 9) (oi := { dst := some 21, op := Op.fieldAddr 33 (Operand.tmp 20) 0, type := 0, pos := "keep.go:100", after := #[{ on := 8, ground := Ground.data }, { on := 2, ground := Ground.guard }], guard := some (2, false) }) (v := .pointer (some ⟨g, 3, none⟩)) rfl (by kernel_rfl) (by kernel_rfl) (by kernel_rfl) (fun _ _ _ h => h) (Or.inl ⟨by rfl, fun w hSw => ?_⟩) (by assumption) ?_
      · (try dsimp only at hSw)
        go_simp
      try simp only [Act.put, List.setIfInBounds_toArray, List.set_cons_zero, List.set_cons_succ]
      refine wpAnyH_take (i := 10) (oi := { dst := some 22, op := Op.load 2 (Operand.tmp 21), type := 2, pos := "keep.go:100", after := #[{ on := 9, ground := Ground.data }, { on := 2, ground := Ground.guard }], guard := some (2, false) }) (v := .int .i64 k.s.ix) rfl (by kernel_rfl) (by kernel_rfl) (by kernel_rfl) (fun _ _ _ h => h) (Or.inl ⟨by rfl, fun w hSw => ?_⟩) (by assumption) ?_
      · (try dsimp only at hSw)
        obtain ⟨q0, q1⟩ := hSw
        go_simp
      try simp only [Act.put, List.setIfInBounds_toArray, List.set_cons_zero, List.set_cons_succ]
      refine wpAnyH_take (i := 11) (oi := { dst := some 23, op := Op.binOp BinOp.lss 2 (Operand.tmp 16) (Operand.tmp 22) 2, type := 4, pos := "keep.go:100", after := #[{ on := 4, ground := Ground.data }, { on := 10, ground := Ground.data }, { on := 2, ground := Ground.guard }], guard := some (2, false) }) (v := .bool true) rfl (by kernel_rfl) (by kernel_rfl) (by kernel_rfl) (fun _ _ _ h => h) (Or.inl ⟨by rfl, fun w hSw => ?_⟩) (by assumption) ?_
      · (try dsimp only at hSw)
        go_simp
      try simp only [Act.put, List.setIfInBounds_toArray, List.set_cons_zero, List.set_cons_succ]
      refine wpAnyH_take (i := 12) (oi := { dst := some 24, op := Op.pick (Operand.tmp 14) (Operand.const (Value.bool true)) (Operand.tmp 23), type := 4, pos := "keep.go:100", after := #[{ on := 2, ground := Ground.data }, { on := 11, ground := Ground.data }], guard := none }) (v := .bool true) rfl (by kernel_rfl) (by kernel_rfl) (by kernel_rfl) (fun _ _ _ h => h) (Or.inl ⟨by rfl, fun w hSw => ?_⟩) (by assumption) ?_
      · (try dsimp only at hSw)
        go_simp
      try simp only [Act.put, List.setIfInBounds_toArray, List.set_cons_zero, List.set_cons_succ]
      refine wpAnyH_done (by kernel_rfl) ?_ _
      refine NoPanic.normal ?_
      go_wp2
      go_ret
      exact HEND.out _ h1
    · obtain ⟨k', hk'⟩ : ∃ k', (⟨k.ht, k.hv, ⟨ix, st, cf, dt⟩, behind11 k ⟨ix, st, cf, dt⟩⟩ : Kst) = k' := ⟨_, rfl⟩
      have e1 : snap11 k ⟨ix, st, cf, dt⟩ = (0, k') := by unfold snap11; rw [if_pos ⟨hm, by show k.s.ix ≤ ix; omega⟩, ← hk']
      have e2 : snapF k x ⟨ix, st, cf, dt⟩ = some (whole11 k', (whole11 k').length) := by unfold snapF; rw [if_pos (by rw [e1]), e1]
      rw [e1, e2]
      have HOK := Lib.hid (snap11_ok h.ok e1)
      have HK' := Lib.hid hk'
      clear h hKW hTW hT hl hm hx e1 e2 hk'
      go_enter Tryd.func23, Tryd.ntmps23
      go_wp2_with fail
      refine (snap_v ix st cf dt l W hcs hds HT.out HL.out).mono ?_
      rintro e w1 ⟨v1, rfl, hv1, h1⟩
      obtain ⟨A7, c7, rfl⟩ := own_slice hv1
      obtain ⟨g7, rfl⟩ := own_some hv1 (by omega)
      obtain ⟨q7, hq7⟩ : ∃ q7, l.length = q7 := ⟨_, rfl⟩
      rw [hq7] at hv1 ⊢
      have HV1 := Lib.hid hv1
      have HQ7 := Lib.hid hq7
      replace b0 := (h1.cell (p := ⟨b, 0, none⟩) hbl).trans b0
      have x3 := (h1.cell (p := ⟨g, 3, none⟩) hgl).trans hg3
      clear hv1 hq7
      go_wp2_with fail
      replace b0 : w1.drew.cell? ⟨b, 0, none⟩ = _ := b0
      replace x3 : w1.drew.cell? ⟨g, 3, none⟩ = _ := x3
      replace h1 : Below W.heap.size W w1.drew := h1.drew
      replace HV1 := Lib.hid (show OwnB W.heap.size _ _ w1.drew from HV1.out)
      refine wp_region_noPanic ?_
      refine wp_region_held_drew (S := fun W => W.cell? ⟨b, 0, none⟩ = some (.int .i64 ix) ∧ W.cell? ⟨g, 3, none⟩ = some (.int .i64 k.s.ix)) (by kernel_rfl) ?_ (fun hHeld => ?_)
      · exact ⟨b0, x3⟩
      generalize w1.drew = wz at *
      refine wpAnyH_take (i := 0) (oi := { dst := some 12, op := Op.move (Operand.tmp 5), type := 46, pos := "keep.go:100", after := #[], guard := none }) (v := .slice (some ⟨g7, 0, none⟩) q7 c7) rfl (by kernel_rfl) (by kernel_rfl) (by kernel_rfl) (fun _ _ _ h => h) (Or.inl ⟨by rfl, fun w hSw => ?_⟩) (by assumption) ?_
      · (try dsimp only at hSw)
        go_simp
      try simp only [Act.put, List.setIfInBounds_toArray, List.set_cons_zero, List.set_cons_succ]
      refine wpAnyH_take (i := 1) (oi := { dst := some 13, op := Op.binOp BinOp.eql 46 (Operand.tmp 12) (Operand.const (Value.slice none 0 0)) 46, type := 4, pos := "keep.go:100", after := #[{ on := 0, ground := Ground.data }], guard := none }) (v := .bool false) rfl (by kernel_rfl) (by kernel_rfl) (by kernel_rfl) (fun _ _ _ h => h) (Or.inl ⟨by rfl, fun w hSw => ?_⟩) (by assumption) ?_
      · (try dsimp only at hSw)
        go_simp
      try simp only [Act.put, List.setIfInBounds_toArray, List.set_cons_zero, List.set_cons_succ]
      refine wpAnyH_take (i := 2) (oi := { dst := some 14, op := Op.move (Operand.tmp 13), type := 4, pos := "keep.go:100", after := #[{ on := 1, ground := Ground.data }], guard := none }) (v := .bool false) rfl (by kernel_rfl) (by kernel_rfl) (by kernel_rfl) (fun _ _ _ h => h) (Or.inl ⟨by rfl, fun w hSw => ?_⟩) (by assumption) ?_
      · (try dsimp only at hSw)
        go_simp
      try simp only [Act.put, List.setIfInBounds_toArray, List.set_cons_zero, List.set_cons_succ]
      refine wpAnyH_take (i := 3) (oi := { dst := some 15, op := Op.fieldAddr 33 (Operand.tmp 3) 0, type := 0, pos := "keep.go:100", after := #[{ on := 2, ground := Ground.guard }], guard := some (2, false) }) (v := .pointer (some ⟨b, 0, none⟩)) rfl (by kernel_rfl) (by kernel_rfl) (by kernel_rfl) (fun _ _ _ h => h) (Or.inl ⟨by rfl, fun w hSw => ?_⟩) (by assumption) ?_
      · (try dsimp only at hSw)
        go_simp
      try simp only [Act.put, List.setIfInBounds_toArray, List.set_cons_zero, List.set_cons_succ]
      refine wpAnyH_take (i := 4) (oi := { dst := some 16, op := Op.load 2 (Operand.tmp 15), type := 2, pos := "keep.go:100", after := #[{ on := 3, ground := Ground.data }, { on := 2, ground := Ground.guard }], guard := some (2, false) }) (v := .int .i64 ix) rfl (by kernel_rfl) (by kernel_rfl) (by kernel_rfl) (fun _ _ _ h => h) (Or.inl ⟨by rfl, fun w hSw => ?_⟩) (by assumption) ?_
      · (try dsimp only at hSw)
        obtain ⟨q0, q1⟩ := hSw
        go_simp
      try simp only [Act.put, List.setIfInBounds_toArray, List.set_cons_zero, List.set_cons_succ]
      refine wpAnyH_take (i := 5) (oi := { dst := some 17, op := Op.move (Operand.tmp 0), type := 28, pos := "keep.go:100", after := #[{ on := 2, ground := Ground.guard }], guard := some (2, false) }) (v := .pointer (some ⟨g, 0, none⟩)) rfl (by kernel_rfl) (by kernel_rfl) (by kernel_rfl) (fun _ _ _ h => h) (Or.inl ⟨by rfl, fun w hSw => ?_⟩) (by assumption) ?_
      · (try dsimp only at hSw)
        go_simp
      try simp only [Act.put, List.setIfInBounds_toArray, List.set_cons_zero, List.set_cons_succ]
      refine wpAnyH_take (i := 6) (oi := { dst := some 18, op := Op.nilCheck (Operand.tmp 17), type := 0, pos := "keep.go:100", after := #[{ on := 5, ground := Ground.data }, { on := 2, ground := Ground.guard }], guard := some (2, false) }) (v := .pointer (some ⟨g, 0, none⟩)) rfl (by kernel_rfl) (by kernel_rfl) (by kernel_rfl) (fun _ _ _ h => h) (Or.inl ⟨by rfl, fun w hSw => ?_⟩) (by assumption) ?_
      · (try dsimp only at hSw)
        go_simp
      try simp only [Act.put, List.setIfInBounds_toArray, List.set_cons_zero, List.set_cons_succ]
      refine wpAnyH_take (i := 7) (oi := { dst := some 19, op := Op.fieldAddr 75 (Operand.tmp 18) 1, type := 0, pos := "keep.go:100", after := #[{ on := 6, ground := Ground.data }, { on := 2, ground := Ground.guard }], guard := some (2, false) }) (v := .pointer (some ⟨g, 1, none⟩)) rfl (by kernel_rfl) (by kernel_rfl) (by kernel_rfl) (fun _ _ _ h => h) (Or.inl ⟨by rfl, fun w hSw => ?_⟩) (by assumption) ?_
      · (try dsimp only at hSw)
        go_simp
      try simp only [Act.put, List.setIfInBounds_toArray, List.set_cons_zero, List.set_cons_succ]
      refine wpAnyH_take (i := 8) (oi := { dst := some 20, op := Op.fieldAddr 52 (Operand.tmp 19) 1, type := 0, pos := "keep.go:100", after := #[{ on := 7, ground := Ground.data }, { on := 2, ground := Ground.guard }], guard := some (2, false) }) (v := .pointer (some ⟨g, 3, none⟩)) rfl (by kernel_rfl) (by kernel_rfl) (by kernel_rfl) (fun _ _ _ h => h) (Or.inl ⟨by rfl, fun w hSw => ?_⟩) (by assumption) ?_
      · (try dsimp only at hSw)
        go_simp
      try simp only [Act.put, List.setIfInBounds_toArray, List.set_cons_zero, List.set_cons_succ]
      refine wpAnyH_take (i := 9) (oi := { dst := some 21, op := Op.fieldAddr 33 (Operand.tmp 20) 0, type := 0, pos := "keep.go:100", after := #[{ on := 8, ground := Ground.data }, { on := 2, ground := Ground.guard }], guard := some (2, false) }) (v := .pointer (some ⟨g, 3, none⟩)) rfl (by kernel_rfl) (by kernel_rfl) (by kernel_rfl) (fun _ _ _ h => h) (Or.inl ⟨by rfl, fun w hSw => ?_⟩) (by assumption) ?_
      · (try dsimp only at hSw)
        go_simp
      try simp only [Act.put, List.setIfInBounds_toArray, List.set_cons_zero, List.set_cons_succ]
      refine wpAnyH_take (i := 10) (oi := { dst := some 22, op := Op.load 2 (Operand.tmp 21), type := 2, pos := "keep.go:100", after := #[{ on := 9, ground := Ground.data }, { on := 2, ground := Ground.guard }], guard := some (2, false) }) (v := .int .i64 k.s.ix) rfl (by kernel_rfl) (by kernel_rfl) (by kernel_rfl) (fun _ _ _ h => h) (Or.inl ⟨by rfl, fun w hSw => ?_⟩) (by assumption) ?_
      · (try dsimp only at hSw)
        obtain ⟨q0, q1⟩ := hSw
        go_simp
      try simp only [Act.put, List.setIfInBounds_toArray, List.set_cons_zero, List.set_cons_succ]
      refine wpAnyH_take (i := 11) (oi := { dst := some 23, op := Op.binOp BinOp.lss 2 (Operand.tmp 16) (Operand.tmp 22) 2, type := 4, pos := "keep.go:100", after := #[{ on := 4, ground := Ground.data }, { on := 10, ground := Ground.data }, { on := 2, ground := Ground.guard }], guard := some (2, false) }) (v := .bool false) rfl (by kernel_rfl) (by kernel_rfl) (by kernel_rfl) (fun _ _ _ h => h) (Or.inl ⟨by rfl, fun w hSw => ?_⟩) (by assumption) ?_
      · (try dsimp only at hSw)
        go_simp
      try simp only [Act.put, List.setIfInBounds_toArray, List.set_cons_zero, List.set_cons_succ]
      refine wpAnyH_take (i := 12) (oi := { dst := some 24, op := Op.pick (Operand.tmp 14) (Operand.const (Value.bool true)) (Operand.tmp 23), type := 4, pos := "keep.go:100", after := #[{ on := 2, ground := Ground.data }, { on := 11, ground := Ground.data }], guard := none }) (v := .bool false) rfl (by kernel_rfl) (by kernel_rfl) (by kernel_rfl) (fun _ _ _ h => h) (Or.inl ⟨by rfl, fun w hSw => ?_⟩) (by assumption) ?_
      · (try dsimp only at hSw)
        go_simp
      try simp only [Act.put, List.setIfInBounds_toArray, List.set_cons_zero, List.set_cons_succ]
      refine wpAnyH_done (by kernel_rfl) ?_ _
      refine NoPanic.normal ?_
      obtain ⟨T, v0, cc, hP, hcc, hxk, hOk, hTS, hSg, hTg, hvk⟩ := (H.out.below h1).ex
      obtain ⟨A0, mc0, rfl⟩ := hOk.slice
      obtain ⟨m0, hm0⟩ : ∃ m0, k.log.length = m0 := ⟨_, rfl⟩
      rw [hm0] at hOk hxk hvk
      have hb4 := HX.out.below h1
      have p0 := hb4.cell (j := 0) rfl
      have p1 := hb4.cell (j := 1) rfl
      have p2 := hb4.cell (j := 2) rfl
      have p3 := hb4.cell (j := 3) rfl
      have z1 := hxk.cell (j := 1) (v := .int .i64 k.ht) rfl
      have z2 := hxk.cell (j := 2) (v := .int .i64 k.hv) rfl
      have z3 := hxk.cell (j := 3) (v := .int .i64 k.s.ix) rfl
      have z4 := hxk.cell (j := 4) (v := .int .i64 k.s.st) rfl
      have z7 := hxk.cell (j := 7) (v := .slice A0 m0 mc0) rfl
      have hgz := hxk.lt
      have hbz := hb4.lt
      have HEk := Lib.hid (Ens.of_own hOk)
      have hkix := maySnp10_is H.out.ok.snap
      have hfew := H.out.ok.few
      have HKH := Lib.hid (show k'.ht = k.ht ∧ k'.hv = k.hv ∧ k'.s = ⟨ix, st, cf, dt⟩ ∧ k'.log = behind11 k ⟨ix, st, cf, dt⟩ by rw [← HK'.out]; exact ⟨rfl, rfl, rfl, rfl⟩)
      clear hP hxk hOk hb4 b0 x3 hvk hm0
      go_wp2_with fail
      refine wp_region_noPanic ?_
      obtain ⟨zs, hzs⟩ : ∃ zs, wz.heap.size = zs := ⟨_, rfl⟩
      rw [hzs] at hgz hbz
      have hS0 : Below zs wz wz.drew := (Below.refl _ _).drew
      refine wp_region_held_drew (S := fun W => Below zs wz W) (by kernel_rfl) ?_ (fun hHeld => ?_)
      · exact hS0
      generalize wz.drew = wa at *
      have hSwa := hS0
      refine wpAnyH_take (i := 0) (oi := { dst := some 25, op := Op.move (Operand.tmp 0), type := 28, pos := "keep.go:103", after := #[], guard := none }) (v := .pointer (some ⟨g, 0, none⟩)) rfl (by kernel_rfl) (by kernel_rfl) (by kernel_rfl) (fun _ _ _ h => h) (Or.inl ⟨by rfl, fun w hSw => ?_⟩) (by assumption) ?_
      · (try dsimp only at hSw)
        go_simp
      try simp only [Act.put, List.setIfInBounds_toArray, List.set_cons_zero, List.set_cons_succ]
      refine wpAnyH_take (i := 1) (oi := { dst := some 26, op := Op.nilCheck (Operand.tmp 25), type := 0, pos := "keep.go:103", after := #[{ on := 0, ground := Ground.data }], guard := none }) (v := .pointer (some ⟨g, 0, none⟩)) rfl (by kernel_rfl) (by kernel_rfl) (by kernel_rfl) (fun _ _ _ h => h) (Or.inl ⟨by rfl, fun w hSw => ?_⟩) (by assumption) ?_
      · (try dsimp only at hSw)
        go_simp
      try simp only [Act.put, List.setIfInBounds_toArray, List.set_cons_zero, List.set_cons_succ]
      refine wpAnyH_take (i := 2) (oi := { dst := some 27, op := Op.fieldAddr 75 (Operand.tmp 26) 1, type := 0, pos := "keep.go:103", after := #[{ on := 1, ground := Ground.data }], guard := none }) (v := .pointer (some ⟨g, 1, none⟩)) rfl (by kernel_rfl) (by kernel_rfl) (by kernel_rfl) (fun _ _ _ h => h) (Or.inl ⟨by rfl, fun w hSw => ?_⟩) (by assumption) ?_
      · (try dsimp only at hSw)
        go_simp
      try simp only [Act.put, List.setIfInBounds_toArray, List.set_cons_zero, List.set_cons_succ]
      refine wpAnyH_take (i := 3) (oi := { dst := some 28, op := Op.fieldAddr 52 (Operand.tmp 27) 0, type := 0, pos := "keep.go:103", after := #[{ on := 2, ground := Ground.data }], guard := none }) (v := .pointer (some ⟨g, 1, none⟩)) rfl (by kernel_rfl) (by kernel_rfl) (by kernel_rfl) (fun _ _ _ h => h) (Or.inl ⟨by rfl, fun w hSw => ?_⟩) (by assumption) ?_
      · (try dsimp only at hSw)
        go_simp
      try simp only [Act.put, List.setIfInBounds_toArray, List.set_cons_zero, List.set_cons_succ]
      refine wpAnyH_take (i := 4) (oi := { dst := some 29, op := Op.load 24 (Operand.tmp 28), type := 24, pos := "keep.go:103", after := #[{ on := 3, ground := Ground.data }], guard := none }) (v := .agg #[.int .i64 k.ht, .int .i64 k.hv]) rfl (by kernel_rfl) (by kernel_rfl) (by kernel_rfl) (fun _ _ _ h => h) (Or.inl ⟨by rfl, fun w hSw => ?_⟩) (by assumption) ?_
      · (try dsimp only at hSw)
        have q1 := (hSw.cell (p := ⟨g, 1, none⟩) hgz).trans z1
        have q2 := (hSw.cell (p := ⟨g, 2, none⟩) hgz).trans z2
        go_simp
      try simp only [Act.put, List.setIfInBounds_toArray, List.set_cons_zero, List.set_cons_succ]
      refine wpAnyH_take (i := 5) (oi := { dst := some 30, op := Op.load 33 (Operand.tmp 3), type := 33, pos := "keep.go:103", after := #[], guard := none }) (v := .agg #[.int .i64 ix, .int .i64 st, .string cf, .string dt]) rfl (by kernel_rfl) (by kernel_rfl) (by kernel_rfl) (fun _ _ _ h => h) (Or.inl ⟨by rfl, fun w hSw => ?_⟩) (by assumption) ?_
      · (try dsimp only at hSw)
        have q0 := (hSw.cell (p := ⟨b, 0, none⟩) hbz).trans p0
        have q1 := (hSw.cell (p := ⟨b, 1, none⟩) hbz).trans p1
        have q2 := (hSw.cell (p := ⟨b, 2, none⟩) hbz).trans p2
        have q3 := (hSw.cell (p := ⟨b, 3, none⟩) hbz).trans p3
        go_simp
      try simp only [Act.put, List.setIfInBounds_toArray, List.set_cons_zero, List.set_cons_succ]
      refine wpAnyH_take (i := 7) (oi := { dst := some 32, op := Op.move (Operand.tmp 0), type := 28, pos := "keep.go:103", after := #[], guard := none }) (v := .pointer (some ⟨g, 0, none⟩)) rfl (by kernel_rfl) (by kernel_rfl) (by kernel_rfl) (fun _ _ _ h => h) (Or.inl ⟨by rfl, fun w hSw => ?_⟩) (by assumption) ?_
      · (try dsimp only at hSw)
        go_simp
      try simp only [Act.put, List.setIfInBounds_toArray, List.set_cons_zero, List.set_cons_succ]
      refine wpAnyH_take (i := 8) (oi := { dst := some 33, op := Op.nilCheck (Operand.tmp 32), type := 0, pos := "keep.go:103", after := #[{ on := 7, ground := Ground.data }], guard := none }) (v := .pointer (some ⟨g, 0, none⟩)) rfl (by kernel_rfl) (by kernel_rfl) (by kernel_rfl) (fun _ _ _ h => h) (Or.inl ⟨by rfl, fun w hSw => ?_⟩) (by assumption) ?_
      · (try dsimp only at hSw)
        go_simp
      try simp only [Act.put, List.setIfInBounds_toArray, List.set_cons_zero, List.set_cons_succ]
      refine wpAnyH_take (i := 9) (oi := { dst := some 34, op := Op.fieldAddr 75 (Operand.tmp 33) 1, type := 0, pos := "keep.go:103", after := #[{ on := 8, ground := Ground.data }], guard := none }) (v := .pointer (some ⟨g, 1, none⟩)) rfl (by kernel_rfl) (by kernel_rfl) (by kernel_rfl) (fun _ _ _ h => h) (Or.inl ⟨by rfl, fun w hSw => ?_⟩) (by assumption) ?_
      · (try dsimp only at hSw)
        go_simp
      try simp only [Act.put, List.setIfInBounds_toArray, List.set_cons_zero, List.set_cons_succ]
      refine wpAnyH_take (i := 10) (oi := { dst := some 35, op := Op.load 33 (Operand.tmp 3), type := 33, pos := "keep.go:103", after := #[], guard := none }) (v := .agg #[.int .i64 ix, .int .i64 st, .string cf, .string dt]) rfl (by kernel_rfl) (by kernel_rfl) (by kernel_rfl) (fun _ _ _ h => h) (Or.inl ⟨by rfl, fun w hSw => ?_⟩) (by assumption) ?_
      · (try dsimp only at hSw)
        have q0 := (hSw.cell (p := ⟨b, 0, none⟩) hbz).trans p0
        have q1 := (hSw.cell (p := ⟨b, 1, none⟩) hbz).trans p1
        have q2 := (hSw.cell (p := ⟨b, 2, none⟩) hbz).trans p2
        have q3 := (hSw.cell (p := ⟨b, 3, none⟩) hbz).trans p3
        go_simp
      try simp only [Act.put, List.setIfInBounds_toArray, List.set_cons_zero, List.set_cons_succ]
      refine wpAnyH_ready (rs := [6, 13]) (by kernel_rfl) (by simp) ?_
      refine AllReadyH.cons (o := { dst := some 31, op := Op.call { callee := Callee.value (Operand.func 52), args := #[Operand.tmp 30], argTypes := #[33] }, type := 33, pos := "keep.go:103", after := #[{ on := 5, ground := Ground.data }], guard := none }) rfl (fun K hK => ?_) (AllReadyH.cons (o := { dst := some 6, op := Op.alloc 52, type := 0, pos := "keep.go:103", after := #[], guard := none }) rfl (fun K hK => ?_) AllReadyH.nil)
      · go_simp
        go_at_call 52
        refine (kcopySnap_any ix st cf dt wa hcs hds).mono ?_
        rintro e wb ⟨rfl, h⟩
        have hSwb := hSwa.trans (h.mono (by rw [← hzs]; exact hSwa.size))
        clear h
        refine hK.out _ _ ?_ (fun hHeld => ?_)
        · exact hSwb
        clear hK K
        try simp only [Act.put, List.setIfInBounds_toArray, List.set_cons_zero, List.set_cons_succ]
        refine wpAnyH_ready (rs := [11, 13]) (by kernel_rfl) (by simp) ?_
        refine AllReadyH.cons (o := { dst := some 36, op := Op.call { callee := Callee.value (Operand.func 53), args := #[Operand.tmp 34, Operand.tmp 35], argTypes := #[52, 33] }, type := 22, pos := "keep.go:103", after := #[{ on := 9, ground := Ground.data }, { on := 10, ground := Ground.data }, { on := 6, ground := Ground.chain }], guard := none }) rfl (fun K hK => ?_) (AllReadyH.cons (o := { dst := some 6, op := Op.alloc 52, type := 0, pos := "keep.go:103", after := #[], guard := none }) rfl (fun K hK => ?_) AllReadyH.nil)
        · go_simp
          go_at_call 53
          refine (kbehind_any g 1 k ix st cf dt A0 m0 mc0 wb ((hSwb.cell (p := ⟨g, 3, none⟩) hgz).trans z3) ((hSwb.cell (p := ⟨g, 4, none⟩) hgz).trans z4) ((hSwb.cell (p := ⟨g, 7, none⟩) hgz).trans z7) _ (HEk.out.below (by rw [hzs]; exact hSwb)) ⟨hkix.1, by omega, hix.2.1⟩ (by omega) k'.log (HKH.out.2.2.2).symm).mono ?_
          rintro e wc ⟨v2, rfl, hv2, h⟩
          have hSwc := hSwb.trans (h.mono (by rw [← hzs]; exact hSwb.size))
          replace hv2 : OwnEn zs v2 k'.log wc := hv2.down (by rw [← hzs]; exact hSwb.size)
          obtain ⟨A2, c2, hv2e⟩ := hv2.slice
          obtain ⟨m2, hm2⟩ : ∃ m2, k'.log.length = m2 := ⟨_, rfl⟩
          rw [hm2] at hv2e
          subst hv2e
          clear hm2
          clear h
          refine hK.out _ _ ?_ (fun hHeld => ?_)
          · exact hSwc
          clear hK K
          try simp only [Act.put, List.setIfInBounds_toArray, List.set_cons_zero, List.set_cons_succ]
          refine wpAnyH_take (i := 12) (oi := { dst := some 37, op := Op.build 52 #[(0, Operand.tmp 29), (1, Operand.tmp 31), (2, Operand.tmp 36)], type := 52, pos := "keep.go:103", after := #[{ on := 4, ground := Ground.data }, { on := 6, ground := Ground.data }, { on := 11, ground := Ground.data }], guard := none }) (v := .agg #[.int .i64 k.ht, .int .i64 k.hv, .int .i64 ix, .int .i64 st, .string cf, .string dt, .slice A2 m2 c2]) rfl (by kernel_rfl) (by kernel_rfl) (by kernel_rfl) (fun _ _ _ h => h) (Or.inl ⟨by rfl, fun w hSw => ?_⟩) (by assumption) ?_
          · (try dsimp only at hSw)
            go_simp
          try simp only [Act.put, List.setIfInBounds_toArray, List.set_cons_zero, List.set_cons_succ]
          refine wpAnyH_ready (rs := [13]) (by kernel_rfl) (by simp) ?_
          refine AllReadyH.cons (o := { dst := some 6, op := Op.alloc 52, type := 0, pos := "keep.go:103", after := #[], guard := none }) rfl (fun K hK => ?_) AllReadyH.nil
          go_simp
          obtain ⟨wd, hwde⟩ : ∃ W9, wc.alloc (.cells #[.int .i64 0, .int .i64 0, .int .i64 0, .int .i64 0, .string ⟨#[]⟩, .string ⟨#[]⟩, .slice none 0 0] 52) = W9 := ⟨_, rfl⟩
          obtain ⟨nb, hnb⟩ : ∃ nb, wc.heap.size = nb := ⟨_, rfl⟩
          have h : Below wc.heap.size wc wd := by rw [← hwde]; exact below_new _ _
          have hywd : Rt wd nb 52 [.int .i64 0, .int .i64 0, .int .i64 0, .int .i64 0, .string ⟨#[]⟩, .string ⟨#[]⟩, .slice none 0 0] := by rw [← hwde, ← hnb]; exact Rt.new _ _ _
          have hSwd := hSwc.trans (h.mono (by rw [← hzs]; exact hSwc.size))
          have hnz : zs ≤ nb := by rw [← hnb, ← hzs]; exact hSwc.size
          replace hv2 := hv2.below h
          rw [hwde]
          rw [hnb]
          clear h hwde hnb
          refine hK.out _ _ ?_ (fun hHeld => ?_)
          · exact hSwd
          clear hK K
          try simp only [Act.put, List.setIfInBounds_toArray, List.set_cons_zero, List.set_cons_succ]
          have d0 := hywd.cell (j := 0) rfl
          have e0 := hywd.frz 0
          have d1 := hywd.cell (j := 1) rfl
          have e1 := hywd.frz 1
          have d2 := hywd.cell (j := 2) rfl
          have e2 := hywd.frz 2
          have d3 := hywd.cell (j := 3) rfl
          have e3 := hywd.frz 3
          have d4 := hywd.cell (j := 4) rfl
          have e4 := hywd.frz 4
          have d5 := hywd.cell (j := 5) rfl
          have e5 := hywd.frz 5
          have d6 := hywd.cell (j := 6) rfl
          have e6 := hywd.frz 6
          have hB9 := (((((((hSwd.setCell (p := ⟨nb, 0, none⟩) hnz (.int .i64 k.ht)).setCell (p := ⟨nb, 1, none⟩) hnz (.int .i64 k.hv)).setCell (p := ⟨nb, 2, none⟩) hnz (.int .i64 ix)).setCell (p := ⟨nb, 3, none⟩) hnz (.int .i64 st)).setCell (p := ⟨nb, 4, none⟩) hnz (.string cf)).setCell (p := ⟨nb, 5, none⟩) hnz (.string dt)).setCell (p := ⟨nb, 6, none⟩) hnz (.slice A2 m2 c2))
          have hy9 := (((((((hywd.set 0 (.int .i64 k.ht)).set 1 (.int .i64 k.hv)).set 2 (.int .i64 ix)).set 3 (.int .i64 st)).set 4 (.string cf)).set 5 (.string dt)).set 6 (.slice A2 m2 c2))
          have HV9 := Lib.hid (show OwnEn zs (.slice A2 m2 c2) k'.log (((((((wd.setCell ⟨nb, 0, none⟩ (.int .i64 k.ht)).setCell ⟨nb, 1, none⟩ (.int .i64 k.hv)).setCell ⟨nb, 2, none⟩ (.int .i64 ix)).setCell ⟨nb, 3, none⟩ (.int .i64 st)).setCell ⟨nb, 4, none⟩ (.string cf)).setCell ⟨nb, 5, none⟩ (.string dt)).setCell ⟨nb, 6, none⟩ (.slice A2 m2 c2)) from ownsRow_setb hv2 hywd (by decide) _ _ _ _ _ _ _)
          refine wpAnyH_ready (rs := [14]) (by kernel_rfl) (by simp) ?_
          refine AllReadyH.cons (o := { dst := none, op := Op.store 52 (Operand.tmp 6) (Operand.tmp 37), type := 0, pos := "keep.go:103", after := #[{ on := 13, ground := Ground.data }, { on := 12, ground := Ground.data }, { on := 11, ground := Ground.chain }, { on := 0, ground := Ground.phase }, { on := 1, ground := Ground.phase }, { on := 2, ground := Ground.phase }, { on := 3, ground := Ground.phase }, { on := 4, ground := Ground.phase }, { on := 5, ground := Ground.phase }, { on := 6, ground := Ground.phase }, { on := 7, ground := Ground.phase }, { on := 8, ground := Ground.phase }, { on := 9, ground := Ground.phase }, { on := 10, ground := Ground.phase }, { on := 11, ground := Ground.phase }, { on := 12, ground := Ground.phase }, { on := 13, ground := Ground.phase }], guard := none }) rfl (fun K hK => ?_) AllReadyH.nil
          go_simp
          obtain ⟨w9, hw9⟩ : ∃ w9, (((((((wd.setCell ⟨nb, 0, none⟩ (.int .i64 k.ht)).setCell ⟨nb, 1, none⟩ (.int .i64 k.hv)).setCell ⟨nb, 2, none⟩ (.int .i64 ix)).setCell ⟨nb, 3, none⟩ (.int .i64 st)).setCell ⟨nb, 4, none⟩ (.string cf)).setCell ⟨nb, 5, none⟩ (.string dt)).setCell ⟨nb, 6, none⟩ (.slice A2 m2 c2)) = w9 := ⟨_, rfl⟩
          rw [hw9] at hB9 hy9 HV9 ⊢
          refine hK.out _ _ ?_ (fun hHeld => ?_)
          · exact hB9
          clear hK K hw9 d0 e0 d1 e1 d2 e2 d3 e3 d4 e4 d5 e5 d6 e6 hv2 hSwa hSwb hSwc hSwd hywd
          try simp only [Act.put, List.setIfInBounds_toArray, List.set_cons_zero, List.set_cons_succ]
          refine wpAnyH_done (by kernel_rfl) ?_ _
          refine NoPanic.normal ?_
          have h19 : Below W.heap.size W w9 := h1.trans (hB9.mono (by rw [← hzs]; exact h1.size))
          have hg7z : g7 < zs := by have := (OwnB.lt HV1.out g7 rfl).2; rw [hzs] at this; exact this
          have HV19 := Lib.hid (OwnB.below HV1.out (by rw [hzs]; exact hB9))
          obtain ⟨y1, y2, y3, y4⟩ := HKH.out
          have hwh := kwhole_any W.heap.size (.slice (some ⟨g7, 0, none⟩) q7 c7) l k' A2 m2 c2 w9 HV19.out h19.size ((Ens.of_own HV9.out).mono (fun j hj _ e => by have h8 := (HV9.out.lt j hj).1; have e7 : g7 = j := Option.some.inj (show some g7 = some j from e); omega)) (tbl_keep HT.out h19) (cell_lt (HT.out 0 (by omega))) HOK.out (by omega)
          have hl9 : l ++ encs10 (lines11 k') = whole11 k' := by rw [← HL.out, ← y3]; rfl
          rw [hl9] at hwh
          simp only [y1, y2, y3] at hwh
          have HWH := Lib.hid hwh
          have HOK9 := Lib.hid (And.intro y1 (And.intro y2 y3))
          have g0 := hy9.cell (j := 0) rfl
          have g1 := hy9.cell (j := 1) rfl
          have g2 := hy9.cell (j := 2) rfl
          have g3 := hy9.cell (j := 3) rfl
          have g4 := hy9.cell (j := 4) rfl
          have g5 := hy9.cell (j := 5) rfl
          have g6 := hy9.cell (j := 6) rfl
          have hnl := hy9.lt
          clear hwh y1 y2 y3 y4 hl9
          go_wp2_with fail
          refine HWH.out.mono ?_
          rintro e w10 ⟨v10, rfl, hv10, h10, hof10⟩
          obtain ⟨A10, c10, rfl⟩ := own_slice hv10
          obtain ⟨q10, hq10⟩ : ∃ q10, (whole11 k').length = q10 := ⟨_, rfl⟩
          rw [hq10] at hv10 ⊢
          have hw9 := whole11_len HOK.out
          have h110 := h19.trans h10
          have hsw := kswap_any S g d c k x A10 q10 c10 (whole11 k') w10 (H.out.below h110) (by omega) (safe_fresh hv10 H.out.lt) (by omega) (by omega) hq10.symm
          have HSW := Lib.hid hsw
          have hnb7 : ¬ (Value.slice (some ⟨g7, 0, none⟩ : Option Addr) q7 c7).ownBlock = some nb := fun e => by have e7 : g7 = nb := Option.some.inj (show some g7 = some nb from e); omega
          replace g0 := (hof10.cell (p := ⟨nb, 0, none⟩) hnl hnb7).trans g0
          replace g1 := (hof10.cell (p := ⟨nb, 1, none⟩) hnl hnb7).trans g1
          replace g2 := (hof10.cell (p := ⟨nb, 2, none⟩) hnl hnb7).trans g2
          replace g3 := (hof10.cell (p := ⟨nb, 3, none⟩) hnl hnb7).trans g3
          replace g4 := (hof10.cell (p := ⟨nb, 4, none⟩) hnl hnb7).trans g4
          replace g5 := (hof10.cell (p := ⟨nb, 5, none⟩) hnl hnb7).trans g5
          replace g6 := (hof10.cell (p := ⟨nb, 6, none⟩) hnl hnb7).trans g6
          have HVA := Lib.hid (HV9.out.off hof10 (fun j hj e => by have h8 := (HV9.out.lt j hj).1; have e7 : g7 = j := Option.some.inj (show some g7 = some j from e); omega))
          have hnl10 : nb < w10.heap.size := Nat.lt_of_lt_of_le hnl hof10.size
          have hSn : ∀ j, zs ≤ j → ¬ S j := fun j hj e => by have h8 := H.out.lt j e; have h9 := h1.size; omega
          have HB110 := Lib.hid h110
          clear hsw hq10 hv10 hy9 hof10 h10 h19 hHeld hB9 h110
          go_wp2_with fail
          refine HSW.out.mono ?_
          rintro e w11 ⟨⟨rfl, hK11, hO11⟩, hjj⟩
          clear hjj
          replace g0 := (hO11.cell (p := ⟨nb, 0, none⟩) hnl10 (hSn nb hnz)).trans g0
          replace g1 := (hO11.cell (p := ⟨nb, 1, none⟩) hnl10 (hSn nb hnz)).trans g1
          replace g2 := (hO11.cell (p := ⟨nb, 2, none⟩) hnl10 (hSn nb hnz)).trans g2
          replace g3 := (hO11.cell (p := ⟨nb, 3, none⟩) hnl10 (hSn nb hnz)).trans g3
          replace g4 := (hO11.cell (p := ⟨nb, 4, none⟩) hnl10 (hSn nb hnz)).trans g4
          replace g5 := (hO11.cell (p := ⟨nb, 5, none⟩) hnl10 (hSn nb hnz)).trans g5
          replace g6 := (hO11.cell (p := ⟨nb, 6, none⟩) hnl10 (hSn nb hnz)).trans g6
          have hVB := HVA.out.off hO11 (fun j hj e => hSn j (HVA.out.lt j hj).1 e)
          obtain ⟨T2, v2', c2', _, _, hx11, _⟩ := hK11.ex
          have d1 := hx11.cell (j := 1) rfl
          have f1 := hx11.frz 1
          have d2 := hx11.cell (j := 2) rfl
          have f2 := hx11.frz 2
          have d3 := hx11.cell (j := 3) rfl
          have f3 := hx11.frz 3
          have d4 := hx11.cell (j := 4) rfl
          have f4 := hx11.frz 4
          have d5 := hx11.cell (j := 5) rfl
          have f5 := hx11.frz 5
          have d6 := hx11.cell (j := 6) rfl
          have f6 := hx11.frz 6
          have d7 := hx11.cell (j := 7) rfl
          have f7 := hx11.frz 7
          have hset := hK11.setS HOK.out (hVB.down (Nat.zero_le _)) (fun j hj e => by
            have h8 := (HVA.out.lt j hj)
            rcases e with e | e
            · exact hSn j h8.1 e
            · have := h8.2; omega)
          simp only [HOK9.out.1, HOK9.out.2.1, HOK9.out.2.2] at hset
          have HSET := Lib.hid hset
          have HLT := Lib.hid (fun j (hj : (Value.slice A2 m2 c2).ownBlock = some j) => hVB.lt j hj)
          obtain ⟨w12, hw12⟩ : ∃ w12, (((((((w11.setCell ⟨g, 1, none⟩ (.int .i64 k.ht)).setCell ⟨g, 2, none⟩ (.int .i64 k.hv)).setCell ⟨g, 3, none⟩ (.int .i64 ix)).setCell ⟨g, 4, none⟩ (.int .i64 st)).setCell ⟨g, 5, none⟩ (.string cf)).setCell ⟨g, 6, none⟩ (.string dt)).setCell ⟨g, 7, none⟩ (.slice A2 m2 c2)) = w12 := ⟨_, rfl⟩
          rw [hw12] at HSET
          have HW12 := Lib.hid hw12
          have HO11 := Lib.hid hO11
          clear hset hx11 hVB hK11 hw12 hO11
          go_wp2
          go_ret
          rw [HW12.out]
          obtain ⟨i1, i2⟩ := HSET.out
          have hO12 := HO11.out.trans i2 (fun j hj => by
            subst hj
            obtain ⟨_, _, _, _, _, _, _, _, hh, _⟩ := H.out.ex
            exact .inl hh)
          have hOW : Off S w w10 := Off.of_below (h0.trans (HB110.out.mono h0.size))
          have hW10 := HB110.out.size
          have hz1 := h1.size
          have hwW := h0.size
          refine ⟨rfl, i1.more (fun j hj => ?_) (Grw.lt hlt (Nat.le_trans hOW.size hO12.size)) (by omega), hOW.trans hO12 fun j hj => .inl hj⟩
          rcases hj with hj | hj
          · rcases hj with hj | hj
            · exact .inl hj
            · exact .inr ⟨Nat.le_trans hOW.size hj.1, Nat.lt_of_lt_of_le hj.2 i2.size⟩
          · have h8 := HLT.out j hj
            exact .inr ⟨by omega, Nat.lt_of_lt_of_le h8.2 i2.size⟩
        · go_simp
          obtain ⟨wc, hwce⟩ : ∃ W9, wb.alloc (.cells #[.int .i64 0, .int .i64 0, .int .i64 0, .int .i64 0, .string ⟨#[]⟩, .string ⟨#[]⟩, .slice none 0 0] 52) = W9 := ⟨_, rfl⟩
          obtain ⟨nb, hnb⟩ : ∃ nb, wb.heap.size = nb := ⟨_, rfl⟩
          have h : Below wb.heap.size wb wc := by rw [← hwce]; exact below_new _ _
          have hywc : Rt wc nb 52 [.int .i64 0, .int .i64 0, .int .i64 0, .int .i64 0, .string ⟨#[]⟩, .string ⟨#[]⟩, .slice none 0 0] := by rw [← hwce, ← hnb]; exact Rt.new _ _ _
          have hSwc := hSwb.trans (h.mono (by rw [← hzs]; exact hSwb.size))
          have hnz : zs ≤ nb := by rw [← hnb, ← hzs]; exact hSwb.size
          rw [hwce]
          rw [hnb]
          clear h hwce hnb
          refine hK.out _ _ ?_ (fun hHeld => ?_)
          · exact hSwc
          clear hK K
          try simp only [Act.put, List.setIfInBounds_toArray, List.set_cons_zero, List.set_cons_succ]
          refine wpAnyH_ready (rs := [11]) (by kernel_rfl) (by simp) ?_
          refine AllReadyH.cons (o := { dst := some 36, op := Op.call { callee := Callee.value (Operand.func 53), args := #[Operand.tmp 34, Operand.tmp 35], argTypes := #[52, 33] }, type := 22, pos := "keep.go:103", after := #[{ on := 9, ground := Ground.data }, { on := 10, ground := Ground.data }, { on := 6, ground := Ground.chain }], guard := none }) rfl (fun K hK => ?_) AllReadyH.nil
          go_simp
          go_at_call 53
          refine (kbehind_any g 1 k ix st cf dt A0 m0 mc0 wc ((hSwc.cell (p := ⟨g, 3, none⟩) hgz).trans z3) ((hSwc.cell (p := ⟨g, 4, none⟩) hgz).trans z4) ((hSwc.cell (p := ⟨g, 7, none⟩) hgz).trans z7) _ (HEk.out.below (by rw [hzs]; exact hSwc)) ⟨hkix.1, by omega, hix.2.1⟩ (by omega) k'.log (HKH.out.2.2.2).symm).mono ?_
          rintro e wd ⟨v2, rfl, hv2, h⟩
          have hSwd := hSwc.trans (h.mono (by rw [← hzs]; exact hSwc.size))
          replace hv2 : OwnEn zs v2 k'.log wd := hv2.down (by rw [← hzs]; exact hSwc.size)
          obtain ⟨A2, c2, hv2e⟩ := hv2.slice
          obtain ⟨m2, hm2⟩ : ∃ m2, k'.log.length = m2 := ⟨_, rfl⟩
          rw [hm2] at hv2e
          subst hv2e
          clear hm2
          have hywd := hywc.below h
          clear h
          refine hK.out _ _ ?_ (fun hHeld => ?_)
          · exact hSwd
          clear hK K
          try simp only [Act.put, List.setIfInBounds_toArray, List.set_cons_zero, List.set_cons_succ]
          refine wpAnyH_take (i := 12) (oi := { dst := some 37, op := Op.build 52 #[(0, Operand.tmp 29), (1, Operand.tmp 31), (2, Operand.tmp 36)], type := 52, pos := "keep.go:103", after := #[{ on := 4, ground := Ground.data }, { on := 6, ground := Ground.data }, { on := 11, ground := Ground.data }], guard := none }) (v := .agg #[.int .i64 k.ht, .int .i64 k.hv, .int .i64 ix, .int .i64 st, .string cf, .string dt, .slice A2 m2 c2]) rfl (by kernel_rfl) (by kernel_rfl) (by kernel_rfl) (fun _ _ _ h => h) (Or.inl ⟨by rfl, fun w hSw => ?_⟩) (by assumption) ?_
          · (try dsimp only at hSw)
            go_simp
          try simp only [Act.put, List.setIfInBounds_toArray, List.set_cons_zero, List.set_cons_succ]
          have d0 := hywd.cell (j := 0) rfl
          have e0 := hywd.frz 0
          have d1 := hywd.cell (j := 1) rfl
          have e1 := hywd.frz 1
          have d2 := hywd.cell (j := 2) rfl
          have e2 := hywd.frz 2
          have d3 := hywd.cell (j := 3) rfl
          have e3 := hywd.frz 3
          have d4 := hywd.cell (j := 4) rfl
          have e4 := hywd.frz 4
          have d5 := hywd.cell (j := 5) rfl
          have e5 := hywd.frz 5
          have d6 := hywd.cell (j := 6) rfl
          have e6 := hywd.frz 6
          have hB9 := (((((((hSwd.setCell (p := ⟨nb, 0, none⟩) hnz (.int .i64 k.ht)).setCell (p := ⟨nb, 1, none⟩) hnz (.int .i64 k.hv)).setCell (p := ⟨nb, 2, none⟩) hnz (.int .i64 ix)).setCell (p := ⟨nb, 3, none⟩) hnz (.int .i64 st)).setCell (p := ⟨nb, 4, none⟩) hnz (.string cf)).setCell (p := ⟨nb, 5, none⟩) hnz (.string dt)).setCell (p := ⟨nb, 6, none⟩) hnz (.slice A2 m2 c2))
          have hy9 := (((((((hywd.set 0 (.int .i64 k.ht)).set 1 (.int .i64 k.hv)).set 2 (.int .i64 ix)).set 3 (.int .i64 st)).set 4 (.string cf)).set 5 (.string dt)).set 6 (.slice A2 m2 c2))
          have HV9 := Lib.hid (show OwnEn zs (.slice A2 m2 c2) k'.log (((((((wd.setCell ⟨nb, 0, none⟩ (.int .i64 k.ht)).setCell ⟨nb, 1, none⟩ (.int .i64 k.hv)).setCell ⟨nb, 2, none⟩ (.int .i64 ix)).setCell ⟨nb, 3, none⟩ (.int .i64 st)).setCell ⟨nb, 4, none⟩ (.string cf)).setCell ⟨nb, 5, none⟩ (.string dt)).setCell ⟨nb, 6, none⟩ (.slice A2 m2 c2)) from ownsRow_setb hv2 hywd (by decide) _ _ _ _ _ _ _)
          refine wpAnyH_ready (rs := [14]) (by kernel_rfl) (by simp) ?_
          refine AllReadyH.cons (o := { dst := none, op := Op.store 52 (Operand.tmp 6) (Operand.tmp 37), type := 0, pos := "keep.go:103", after := #[{ on := 13, ground := Ground.data }, { on := 12, ground := Ground.data }, { on := 11, ground := Ground.chain }, { on := 0, ground := Ground.phase }, { on := 1, ground := Ground.phase }, { on := 2, ground := Ground.phase }, { on := 3, ground := Ground.phase }, { on := 4, ground := Ground.phase }, { on := 5, ground := Ground.phase }, { on := 6, ground := Ground.phase }, { on := 7, ground := Ground.phase }, { on := 8, ground := Ground.phase }, { on := 9, ground := Ground.phase }, { on := 10, ground := Ground.phase }, { on := 11, ground := Ground.phase }, { on := 12, ground := Ground.phase }, { on := 13, ground := Ground.phase }], guard := none }) rfl (fun K hK => ?_) AllReadyH.nil
          go_simp
          obtain ⟨w9, hw9⟩ : ∃ w9, (((((((wd.setCell ⟨nb, 0, none⟩ (.int .i64 k.ht)).setCell ⟨nb, 1, none⟩ (.int .i64 k.hv)).setCell ⟨nb, 2, none⟩ (.int .i64 ix)).setCell ⟨nb, 3, none⟩ (.int .i64 st)).setCell ⟨nb, 4, none⟩ (.string cf)).setCell ⟨nb, 5, none⟩ (.string dt)).setCell ⟨nb, 6, none⟩ (.slice A2 m2 c2)) = w9 := ⟨_, rfl⟩
          rw [hw9] at hB9 hy9 HV9 ⊢
          refine hK.out _ _ ?_ (fun hHeld => ?_)
          · exact hB9
          clear hK K hw9 d0 e0 d1 e1 d2 e2 d3 e3 d4 e4 d5 e5 d6 e6 hv2 hSwa hSwb hSwc hSwd hywc hywd
          try simp only [Act.put, List.setIfInBounds_toArray, List.set_cons_zero, List.set_cons_succ]
          refine wpAnyH_done (by kernel_rfl) ?_ _
          refine NoPanic.normal ?_
          have h19 : Below W.heap.size W w9 := h1.trans (hB9.mono (by rw [← hzs]; exact h1.size))
          have hg7z : g7 < zs := by have := (OwnB.lt HV1.out g7 rfl).2; rw [hzs] at this; exact this
          have HV19 := Lib.hid (OwnB.below HV1.out (by rw [hzs]; exact hB9))
          obtain ⟨y1, y2, y3, y4⟩ := HKH.out
          have hwh := kwhole_any W.heap.size (.slice (some ⟨g7, 0, none⟩) q7 c7) l k' A2 m2 c2 w9 HV19.out h19.size ((Ens.of_own HV9.out).mono (fun j hj _ e => by have h8 := (HV9.out.lt j hj).1; have e7 : g7 = j := Option.some.inj (show some g7 = some j from e); omega)) (tbl_keep HT.out h19) (cell_lt (HT.out 0 (by omega))) HOK.out (by omega)
          have hl9 : l ++ encs10 (lines11 k') = whole11 k' := by rw [← HL.out, ← y3]; rfl
          rw [hl9] at hwh
          simp only [y1, y2, y3] at hwh
          have HWH := Lib.hid hwh
          have HOK9 := Lib.hid (And.intro y1 (And.intro y2 y3))
          have g0 := hy9.cell (j := 0) rfl
          have g1 := hy9.cell (j := 1) rfl
          have g2 := hy9.cell (j := 2) rfl
          have g3 := hy9.cell (j := 3) rfl
          have g4 := hy9.cell (j := 4) rfl
          have g5 := hy9.cell (j := 5) rfl
          have g6 := hy9.cell (j := 6) rfl
          have hnl := hy9.lt
          clear hwh y1 y2 y3 y4 hl9
          go_wp2_with fail
          refine HWH.out.mono ?_
          rintro e w10 ⟨v10, rfl, hv10, h10, hof10⟩
          obtain ⟨A10, c10, rfl⟩ := own_slice hv10
          obtain ⟨q10, hq10⟩ : ∃ q10, (whole11 k').length = q10 := ⟨_, rfl⟩
          rw [hq10] at hv10 ⊢
          have hw9 := whole11_len HOK.out
          have h110 := h19.trans h10
          have hsw := kswap_any S g d c k x A10 q10 c10 (whole11 k') w10 (H.out.below h110) (by omega) (safe_fresh hv10 H.out.lt) (by omega) (by omega) hq10.symm
          have HSW := Lib.hid hsw
          have hnb7 : ¬ (Value.slice (some ⟨g7, 0, none⟩ : Option Addr) q7 c7).ownBlock = some nb := fun e => by have e7 : g7 = nb := Option.some.inj (show some g7 = some nb from e); omega
          replace g0 := (hof10.cell (p := ⟨nb, 0, none⟩) hnl hnb7).trans g0
          replace g1 := (hof10.cell (p := ⟨nb, 1, none⟩) hnl hnb7).trans g1
          replace g2 := (hof10.cell (p := ⟨nb, 2, none⟩) hnl hnb7).trans g2
          replace g3 := (hof10.cell (p := ⟨nb, 3, none⟩) hnl hnb7).trans g3
          replace g4 := (hof10.cell (p := ⟨nb, 4, none⟩) hnl hnb7).trans g4
          replace g5 := (hof10.cell (p := ⟨nb, 5, none⟩) hnl hnb7).trans g5
          replace g6 := (hof10.cell (p := ⟨nb, 6, none⟩) hnl hnb7).trans g6
          have HVA := Lib.hid (HV9.out.off hof10 (fun j hj e => by have h8 := (HV9.out.lt j hj).1; have e7 : g7 = j := Option.some.inj (show some g7 = some j from e); omega))
          have hnl10 : nb < w10.heap.size := Nat.lt_of_lt_of_le hnl hof10.size
          have hSn : ∀ j, zs ≤ j → ¬ S j := fun j hj e => by have h8 := H.out.lt j e; have h9 := h1.size; omega
          have HB110 := Lib.hid h110
          clear hsw hq10 hv10 hy9 hof10 h10 h19 hHeld hB9 h110
          go_wp2_with fail
          refine HSW.out.mono ?_
          rintro e w11 ⟨⟨rfl, hK11, hO11⟩, hjj⟩
          clear hjj
          replace g0 := (hO11.cell (p := ⟨nb, 0, none⟩) hnl10 (hSn nb hnz)).trans g0
          replace g1 := (hO11.cell (p := ⟨nb, 1, none⟩) hnl10 (hSn nb hnz)).trans g1
          replace g2 := (hO11.cell (p := ⟨nb, 2, none⟩) hnl10 (hSn nb hnz)).trans g2
          replace g3 := (hO11.cell (p := ⟨nb, 3, none⟩) hnl10 (hSn nb hnz)).trans g3
          replace g4 := (hO11.cell (p := ⟨nb, 4, none⟩) hnl10 (hSn nb hnz)).trans g4
          replace g5 := (hO11.cell (p := ⟨nb, 5, none⟩) hnl10 (hSn nb hnz)).trans g5
          replace g6 := (hO11.cell (p := ⟨nb, 6, none⟩) hnl10 (hSn nb hnz)).trans g6
          have hVB := HVA.out.off hO11 (fun j hj e => hSn j (HVA.out.lt j hj).1 e)
          obtain ⟨T2, v2', c2', _, _, hx11, _⟩ := hK11.ex
          have d1 := hx11.cell (j := 1) rfl
          have f1 := hx11.frz 1
          have d2 := hx11.cell (j := 2) rfl
          have f2 := hx11.frz 2
          have d3 := hx11.cell (j := 3) rfl
          have f3 := hx11.frz 3
          have d4 := hx11.cell (j := 4) rfl
          have f4 := hx11.frz 4
          have d5 := hx11.cell (j := 5) rfl
          have f5 := hx11.frz 5
          have d6 := hx11.cell (j := 6) rfl
          have f6 := hx11.frz 6
          have d7 := hx11.cell (j := 7) rfl
          have f7 := hx11.frz 7
          have hset := hK11.setS HOK.out (hVB.down (Nat.zero_le _)) (fun j hj e => by
            have h8 := (HVA.out.lt j hj)
            rcases e with e | e
            · exact hSn j h8.1 e
            · have := h8.2; omega)
          simp only [HOK9.out.1, HOK9.out.2.1, HOK9.out.2.2] at hset
          have HSET := Lib.hid hset
          have HLT := Lib.hid (fun j (hj : (Value.slice A2 m2 c2).ownBlock = some j) => hVB.lt j hj)
          obtain ⟨w12, hw12⟩ : ∃ w12, (((((((w11.setCell ⟨g, 1, none⟩ (.int .i64 k.ht)).setCell ⟨g, 2, none⟩ (.int .i64 k.hv)).setCell ⟨g, 3, none⟩ (.int .i64 ix)).setCell ⟨g, 4, none⟩ (.int .i64 st)).setCell ⟨g, 5, none⟩ (.string cf)).setCell ⟨g, 6, none⟩ (.string dt)).setCell ⟨g, 7, none⟩ (.slice A2 m2 c2)) = w12 := ⟨_, rfl⟩
          rw [hw12] at HSET
          have HW12 := Lib.hid hw12
          have HO11 := Lib.hid hO11
          clear hset hx11 hVB hK11 hw12 hO11
          go_wp2
          go_ret
          rw [HW12.out]
          obtain ⟨i1, i2⟩ := HSET.out
          have hO12 := HO11.out.trans i2 (fun j hj => by
            subst hj
            obtain ⟨_, _, _, _, _, _, _, _, hh, _⟩ := H.out.ex
            exact .inl hh)
          have hOW : Off S w w10 := Off.of_below (h0.trans (HB110.out.mono h0.size))
          have hW10 := HB110.out.size
          have hz1 := h1.size
          have hwW := h0.size
          refine ⟨rfl, i1.more (fun j hj => ?_) (Grw.lt hlt (Nat.le_trans hOW.size hO12.size)) (by omega), hOW.trans hO12 fun j hj => .inl hj⟩
          rcases hj with hj | hj
          · rcases hj with hj | hj
            · exact .inl hj
            · exact .inr ⟨Nat.le_trans hOW.size hj.1, Nat.lt_of_lt_of_le hj.2 i2.size⟩
          · have h8 := HLT.out j hj
            exact .inr ⟨by omega, Nat.lt_of_lt_of_le h8.2 i2.size⟩
      · go_simp
        obtain ⟨wb, hwbe⟩ : ∃ W9, wa.alloc (.cells #[.int .i64 0, .int .i64 0, .int .i64 0, .int .i64 0, .string ⟨#[]⟩, .string ⟨#[]⟩, .slice none 0 0] 52) = W9 := ⟨_, rfl⟩
        obtain ⟨nb, hnb⟩ : ∃ nb, wa.heap.size = nb := ⟨_, rfl⟩
        have h : Below wa.heap.size wa wb := by rw [← hwbe]; exact below_new _ _
        have hywb : Rt wb nb 52 [.int .i64 0, .int .i64 0, .int .i64 0, .int .i64 0, .string ⟨#[]⟩, .string ⟨#[]⟩, .slice none 0 0] := by rw [← hwbe, ← hnb]; exact Rt.new _ _ _
        have hSwb := hSwa.trans (h.mono (by rw [← hzs]; exact hSwa.size))
        have hnz : zs ≤ nb := by rw [← hnb, ← hzs]; exact hSwa.size
        rw [hwbe]
        rw [hnb]
        clear h hwbe hnb
        refine hK.out _ _ ?_ (fun hHeld => ?_)
        · exact hSwb
        clear hK K
        try simp only [Act.put, List.setIfInBounds_toArray, List.set_cons_zero, List.set_cons_succ]
        refine wpAnyH_ready (rs := [6]) (by kernel_rfl) (by simp) ?_
        refine AllReadyH.cons (o := { dst := some 31, op := Op.call { callee := Callee.value (Operand.func 52), args := #[Operand.tmp 30], argTypes := #[33] }, type := 33, pos := "keep.go:103", after := #[{ on := 5, ground := Ground.data }], guard := none }) rfl (fun K hK => ?_) AllReadyH.nil
        go_simp
        go_at_call 52
        refine (kcopySnap_any ix st cf dt wb hcs hds).mono ?_
        rintro e wc ⟨rfl, h⟩
        have hSwc := hSwb.trans (h.mono (by rw [← hzs]; exact hSwb.size))
        have hywc := hywb.below h
        clear h
        refine hK.out _ _ ?_ (fun hHeld => ?_)
        · exact hSwc
        clear hK K
        try simp only [Act.put, List.setIfInBounds_toArray, List.set_cons_zero, List.set_cons_succ]
        refine wpAnyH_ready (rs := [11]) (by kernel_rfl) (by simp) ?_
        refine AllReadyH.cons (o := { dst := some 36, op := Op.call { callee := Callee.value (Operand.func 53), args := #[Operand.tmp 34, Operand.tmp 35], argTypes := #[52, 33] }, type := 22, pos := "keep.go:103", after := #[{ on := 9, ground := Ground.data }, { on := 10, ground := Ground.data }, { on := 6, ground := Ground.chain }], guard := none }) rfl (fun K hK => ?_) AllReadyH.nil
        go_simp
        go_at_call 53
        refine (kbehind_any g 1 k ix st cf dt A0 m0 mc0 wc ((hSwc.cell (p := ⟨g, 3, none⟩) hgz).trans z3) ((hSwc.cell (p := ⟨g, 4, none⟩) hgz).trans z4) ((hSwc.cell (p := ⟨g, 7, none⟩) hgz).trans z7) _ (HEk.out.below (by rw [hzs]; exact hSwc)) ⟨hkix.1, by omega, hix.2.1⟩ (by omega) k'.log (HKH.out.2.2.2).symm).mono ?_
        rintro e wd ⟨v2, rfl, hv2, h⟩
        have hSwd := hSwc.trans (h.mono (by rw [← hzs]; exact hSwc.size))
        replace hv2 : OwnEn zs v2 k'.log wd := hv2.down (by rw [← hzs]; exact hSwc.size)
        obtain ⟨A2, c2, hv2e⟩ := hv2.slice
        obtain ⟨m2, hm2⟩ : ∃ m2, k'.log.length = m2 := ⟨_, rfl⟩
        rw [hm2] at hv2e
        subst hv2e
        clear hm2
        have hywd := hywc.below h
        clear h
        refine hK.out _ _ ?_ (fun hHeld => ?_)
        · exact hSwd
        clear hK K
        try simp only [Act.put, List.setIfInBounds_toArray, List.set_cons_zero, List.set_cons_succ]
        refine wpAnyH_take (i := 12) (oi := { dst := some 37, op := Op.build 52 #[(0, Operand.tmp 29), (1, Operand.tmp 31), (2, Operand.tmp 36)], type := 52, pos := "keep.go:103", after := #[{ on := 4, ground := Ground.data }, { on := 6, ground := Ground.data }, { on := 11, ground := Ground.data }], guard := none }) (v := .agg #[.int .i64 k.ht, .int .i64 k.hv, .int .i64 ix, .int .i64 st, .string cf, .string dt, .slice A2 m2 c2]) rfl (by kernel_rfl) (by kernel_rfl) (by kernel_rfl) (fun _ _ _ h => h) (Or.inl ⟨by rfl, fun w hSw => ?_⟩) (by assumption) ?_
        · (try dsimp only at hSw)
          go_simp
        try simp only [Act.put, List.setIfInBounds_toArray, List.set_cons_zero, List.set_cons_succ]
        have d0 := hywd.cell (j := 0) rfl
        have e0 := hywd.frz 0
        have d1 := hywd.cell (j := 1) rfl
        have e1 := hywd.frz 1
        have d2 := hywd.cell (j := 2) rfl
        have e2 := hywd.frz 2
        have d3 := hywd.cell (j := 3) rfl
        have e3 := hywd.frz 3
        have d4 := hywd.cell (j := 4) rfl
        have e4 := hywd.frz 4
        have d5 := hywd.cell (j := 5) rfl
        have e5 := hywd.frz 5
        have d6 := hywd.cell (j := 6) rfl
        have e6 := hywd.frz 6
        have hB9 := (((((((hSwd.setCell (p := ⟨nb, 0, none⟩) hnz (.int .i64 k.ht)).setCell (p := ⟨nb, 1, none⟩) hnz (.int .i64 k.hv)).setCell (p := ⟨nb, 2, none⟩) hnz (.int .i64 ix)).setCell (p := ⟨nb, 3, none⟩) hnz (.int .i64 st)).setCell (p := ⟨nb, 4, none⟩) hnz (.string cf)).setCell (p := ⟨nb, 5, none⟩) hnz (.string dt)).setCell (p := ⟨nb, 6, none⟩) hnz (.slice A2 m2 c2))
        have hy9 := (((((((hywd.set 0 (.int .i64 k.ht)).set 1 (.int .i64 k.hv)).set 2 (.int .i64 ix)).set 3 (.int .i64 st)).set 4 (.string cf)).set 5 (.string dt)).set 6 (.slice A2 m2 c2))
        have HV9 := Lib.hid (show OwnEn zs (.slice A2 m2 c2) k'.log (((((((wd.setCell ⟨nb, 0, none⟩ (.int .i64 k.ht)).setCell ⟨nb, 1, none⟩ (.int .i64 k.hv)).setCell ⟨nb, 2, none⟩ (.int .i64 ix)).setCell ⟨nb, 3, none⟩ (.int .i64 st)).setCell ⟨nb, 4, none⟩ (.string cf)).setCell ⟨nb, 5, none⟩ (.string dt)).setCell ⟨nb, 6, none⟩ (.slice A2 m2 c2)) from ownsRow_setb hv2 hywd (by decide) _ _ _ _ _ _ _)
        refine wpAnyH_ready (rs := [14]) (by kernel_rfl) (by simp) ?_
        refine AllReadyH.cons (o := { dst := none, op := Op.store 52 (Operand.tmp 6) (Operand.tmp 37), type := 0, pos := "keep.go:103", after := #[{ on := 13, ground := Ground.data }, { on := 12, ground := Ground.data }, { on := 11, ground := Ground.chain }, { on := 0, ground := Ground.phase }, { on := 1, ground := Ground.phase }, { on := 2, ground := Ground.phase }, { on := 3, ground := Ground.phase }, { on := 4, ground := Ground.phase }, { on := 5, ground := Ground.phase }, { on := 6, ground := Ground.phase }, { on := 7, ground := Ground.phase }, { on := 8, ground := Ground.phase }, { on := 9, ground := Ground.phase }, { on := 10, ground := Ground.phase }, { on := 11, ground := Ground.phase }, { on := 12, ground := Ground.phase }, { on := 13, ground := Ground.phase }], guard := none }) rfl (fun K hK => ?_) AllReadyH.nil
        go_simp
        obtain ⟨w9, hw9⟩ : ∃ w9, (((((((wd.setCell ⟨nb, 0, none⟩ (.int .i64 k.ht)).setCell ⟨nb, 1, none⟩ (.int .i64 k.hv)).setCell ⟨nb, 2, none⟩ (.int .i64 ix)).setCell ⟨nb, 3, none⟩ (.int .i64 st)).setCell ⟨nb, 4, none⟩ (.string cf)).setCell ⟨nb, 5, none⟩ (.string dt)).setCell ⟨nb, 6, none⟩ (.slice A2 m2 c2)) = w9 := ⟨_, rfl⟩
        rw [hw9] at hB9 hy9 HV9 ⊢
        refine hK.out _ _ ?_ (fun hHeld => ?_)
        · exact hB9
        clear hK K hw9 d0 e0 d1 e1 d2 e2 d3 e3 d4 e4 d5 e5 d6 e6 hv2 hSwa hSwb hSwc hSwd hywb hywc hywd
        try simp only [Act.put, List.setIfInBounds_toArray, List.set_cons_zero, List.set_cons_succ]
        refine wpAnyH_done (by kernel_rfl) ?_ _
        refine NoPanic.normal ?_
        have h19 : Below W.heap.size W w9 := h1.trans (hB9.mono (by rw [← hzs]; exact h1.size))
        have hg7z : g7 < zs := by have := (OwnB.lt HV1.out g7 rfl).2; rw [hzs] at this; exact this
        have HV19 := Lib.hid (OwnB.below HV1.out (by rw [hzs]; exact hB9))
        obtain ⟨y1, y2, y3, y4⟩ := HKH.out
        have hwh := kwhole_any W.heap.size (.slice (some ⟨g7, 0, none⟩) q7 c7) l k' A2 m2 c2 w9 HV19.out h19.size ((Ens.of_own HV9.out).mono (fun j hj _ e => by have h8 := (HV9.out.lt j hj).1; have e7 : g7 = j := Option.some.inj (show some g7 = some j from e); omega)) (tbl_keep HT.out h19) (cell_lt (HT.out 0 (by omega))) HOK.out (by omega)
        have hl9 : l ++ encs10 (lines11 k') = whole11 k' := by rw [← HL.out, ← y3]; rfl
        rw [hl9] at hwh
        simp only [y1, y2, y3] at hwh
        have HWH := Lib.hid hwh
        have HOK9 := Lib.hid (And.intro y1 (And.intro y2 y3))
        have g0 := hy9.cell (j := 0) rfl
        have g1 := hy9.cell (j := 1) rfl
        have g2 := hy9.cell (j := 2) rfl
        have g3 := hy9.cell (j := 3) rfl
        have g4 := hy9.cell (j := 4) rfl
        have g5 := hy9.cell (j := 5) rfl
        have g6 := hy9.cell (j := 6) rfl
        have hnl := hy9.lt
        clear hwh y1 y2 y3 y4 hl9
        go_wp2_with fail
        refine HWH.out.mono ?_
        rintro e w10 ⟨v10, rfl, hv10, h10, hof10⟩
        obtain ⟨A10, c10, rfl⟩ := own_slice hv10
        obtain ⟨q10, hq10⟩ : ∃ q10, (whole11 k').length = q10 := ⟨_, rfl⟩
        rw [hq10] at hv10 ⊢
        have hw9 := whole11_len HOK.out
        have h110 := h19.trans h10
        have hsw := kswap_any S g d c k x A10 q10 c10 (whole11 k') w10 (H.out.below h110) (by omega) (safe_fresh hv10 H.out.lt) (by omega) (by omega) hq10.symm
        have HSW := Lib.hid hsw
        have hnb7 : ¬ (Value.slice (some ⟨g7, 0, none⟩ : Option Addr) q7 c7).ownBlock = some nb := fun e => by have e7 : g7 = nb := Option.some.inj (show some g7 = some nb from e); omega
        replace g0 := (hof10.cell (p := ⟨nb, 0, none⟩) hnl hnb7).trans g0
        replace g1 := (hof10.cell (p := ⟨nb, 1, none⟩) hnl hnb7).trans g1
        replace g2 := (hof10.cell (p := ⟨nb, 2, none⟩) hnl hnb7).trans g2
        replace g3 := (hof10.cell (p := ⟨nb, 3, none⟩) hnl hnb7).trans g3
        replace g4 := (hof10.cell (p := ⟨nb, 4, none⟩) hnl hnb7).trans g4
        replace g5 := (hof10.cell (p := ⟨nb, 5, none⟩) hnl hnb7).trans g5
        replace g6 := (hof10.cell (p := ⟨nb, 6, none⟩) hnl hnb7).trans g6
        have HVA := Lib.hid (HV9.out.off hof10 (fun j hj e => by have h8 := (HV9.out.lt j hj).1; have e7 : g7 = j := Option.some.inj (show some g7 = some j from e); omega))
        have hnl10 : nb < w10.heap.size := Nat.lt_of_lt_of_le hnl hof10.size
        have hSn : ∀ j, zs ≤ j → ¬ S j := fun j hj e => by have h8 := H.out.lt j e; have h9 := h1.size; omega
        have HB110 := Lib.hid h110
        clear hsw hq10 hv10 hy9 hof10 h10 h19 hHeld hB9 h110
        go_wp2_with fail
        refine HSW.out.mono ?_
        rintro e w11 ⟨⟨rfl, hK11, hO11⟩, hjj⟩
        clear hjj
        replace g0 := (hO11.cell (p := ⟨nb, 0, none⟩) hnl10 (hSn nb hnz)).trans g0
        replace g1 := (hO11.cell (p := ⟨nb, 1, none⟩) hnl10 (hSn nb hnz)).trans g1
        replace g2 := (hO11.cell (p := ⟨nb, 2, none⟩) hnl10 (hSn nb hnz)).trans g2
        replace g3 := (hO11.cell (p := ⟨nb, 3, none⟩) hnl10 (hSn nb hnz)).trans g3
        replace g4 := (hO11.cell (p := ⟨nb, 4, none⟩) hnl10 (hSn nb hnz)).trans g4
        replace g5 := (hO11.cell (p := ⟨nb, 5, none⟩) hnl10 (hSn nb hnz)).trans g5
        replace g6 := (hO11.cell (p := ⟨nb, 6, none⟩) hnl10 (hSn nb hnz)).trans g6
        have hVB := HVA.out.off hO11 (fun j hj e => hSn j (HVA.out.lt j hj).1 e)
        obtain ⟨T2, v2', c2', _, _, hx11, _⟩ := hK11.ex
        have d1 := hx11.cell (j := 1) rfl
        have f1 := hx11.frz 1
        have d2 := hx11.cell (j := 2) rfl
        have f2 := hx11.frz 2
        have d3 := hx11.cell (j := 3) rfl
        have f3 := hx11.frz 3
        have d4 := hx11.cell (j := 4) rfl
        have f4 := hx11.frz 4
        have d5 := hx11.cell (j := 5) rfl
        have f5 := hx11.frz 5
        have d6 := hx11.cell (j := 6) rfl
        have f6 := hx11.frz 6
        have d7 := hx11.cell (j := 7) rfl
        have f7 := hx11.frz 7
        have hset := hK11.setS HOK.out (hVB.down (Nat.zero_le _)) (fun j hj e => by
          have h8 := (HVA.out.lt j hj)
          rcases e with e | e
          · exact hSn j h8.1 e
          · have := h8.2; omega)
        simp only [HOK9.out.1, HOK9.out.2.1, HOK9.out.2.2] at hset
        have HSET := Lib.hid hset
        have HLT := Lib.hid (fun j (hj : (Value.slice A2 m2 c2).ownBlock = some j) => hVB.lt j hj)
        obtain ⟨w12, hw12⟩ : ∃ w12, (((((((w11.setCell ⟨g, 1, none⟩ (.int .i64 k.ht)).setCell ⟨g, 2, none⟩ (.int .i64 k.hv)).setCell ⟨g, 3, none⟩ (.int .i64 ix)).setCell ⟨g, 4, none⟩ (.int .i64 st)).setCell ⟨g, 5, none⟩ (.string cf)).setCell ⟨g, 6, none⟩ (.string dt)).setCell ⟨g, 7, none⟩ (.slice A2 m2 c2)) = w12 := ⟨_, rfl⟩
        rw [hw12] at HSET
        have HW12 := Lib.hid hw12
        have HO11 := Lib.hid hO11
        clear hset hx11 hVB hK11 hw12 hO11
        go_wp2
        go_ret
        rw [HW12.out]
        obtain ⟨i1, i2⟩ := HSET.out
        have hO12 := HO11.out.trans i2 (fun j hj => by
          subst hj
          obtain ⟨_, _, _, _, _, _, _, _, hh, _⟩ := H.out.ex
          exact .inl hh)
        have hOW : Off S w w10 := Off.of_below (h0.trans (HB110.out.mono h0.size))
        have hW10 := HB110.out.size
        have hz1 := h1.size
        have hwW := h0.size
        refine ⟨rfl, i1.more (fun j hj => ?_) (Grw.lt hlt (Nat.le_trans hOW.size hO12.size)) (by omega), hOW.trans hO12 fun j hj => .inl hj⟩
        rcases hj with hj | hj
        · rcases hj with hj | hj
          · exact .inl hj
          · exact .inr ⟨Nat.le_trans hOW.size hj.1, Nat.lt_of_lt_of_le hj.2 i2.size⟩
        · have h8 := HLT.out j hj
          exact .inr ⟨by omega, Nat.lt_of_lt_of_le h8.2 i2.size⟩
end Go.Proofs.YtmoaacaopphgbaaDoor
/-
  Package keep's read and whole: a state out of a file's bytes; a file's bytes.
  There are no conditions beyond those that each lemma names.
-/
set_option linter.unusedSimpArgs false
set_option linter.unusedVariables false
namespace Go.Proofs.YtmoaacaopphgbaaDoor
open Go.RowKit Go.Deep
set_option maxRecDepth 100000

theorem play11_prefix {k0 k : Kst} {L : List Rcd} (h : play11 k0 L = some k) (j : Nat) : ∃ k2, play11 k0 (L.take j) = some k2 := by
  rw [← List.take_append_drop j L, play11_append] at h
  cases hc : play11 k0 (L.take j) with
  | none => rw [hc] at h; cases h
  | some k2 => exact ⟨k2, rfl⟩
theorem take11_len {k k2 : Kst} {r : Rcd} (h : take11 k r = some k2) : k2.log.length ≤ k.log.length + 1 ∧ k2.s = k.s := by
  unfold take11 at h
  split at h
  · injection h with h; subst h; exact ⟨Nat.le_succ _, rfl⟩
  · split at h
    · rename_i hf
      injection h with h
      have := put11_len (l := [r.e]) hf
      have h2 := fits11_is.1 hf
      subst h
      refine ⟨?_, rfl⟩
      simp only [List.length_cons, List.length_nil] at this
      omega
    · cases h
set_option maxHeartbeats 1000000 in
theorem kread_yes (u : Value) (B : Nat) (l : List UInt8) (w : World) (h : Byt w B u l) (hB : B ≤ w.heap.size) (hl : l.length ≤ 1050000) (hT : Tbl w) (ix st : Int) (cf dt : ByteArray) (N : Nat) (hr : getS10 l = (⟨ix, st, cf, dt⟩, N, 0)) (hN0 : 1 ≤ N) (hN : N ≤ l.length) (L : List Rcd) (us : Nat) (hS : ScR (l.drop N) L us 2) (k : Kst) (hk : play11 (base11 ⟨ix, st, cf, dt⟩) L = some k) (hok : KOk k) (hm : maySnp10 ⟨ix, st, cf, dt⟩ = true) :
    Calls Tryd.prog 34 #[u] w fun e w' => ∃ v, e = .returned (.tuple #[.agg #[.int .i64 k.ht, .int .i64 k.hv, .int .i64 k.s.ix, .int .i64 k.s.st, .string k.s.conf, .string k.s.data, v], .int .i64 ((N + us : Nat) : Int), .bool true]) ∧ OwnEn w.heap.size v k.log w' ∧ Below w.heap.size w w' := by
  obtain ⟨A, c, rfl⟩ := byt_slice h
  obtain ⟨b, hb⟩ : ∃ b, w.heap.size = b := ⟨_, rfl⟩
  obtain ⟨W0, hW0⟩ : ∃ W0, w.alloc (.cells #[.int .i64 0, .int .i64 0, .int .i64 0, .int .i64 0, .string ⟨#[]⟩, .string ⟨#[]⟩, .slice none 0 0] 52) = W0 := ⟨_, rfl⟩
  have hy : Rt W0 b 52 [.int .i64 0, .int .i64 0, .int .i64 0, .int .i64 0, .string ⟨#[]⟩, .string ⟨#[]⟩, .slice none 0 0] := by rw [← hW0, ← hb]; exact Rt.new _ _ _
  have hBW : Below b w W0 := by rw [← hW0, ← hb]; exact below_new _ _
  have hby := h.below hBW (by omega)
  have hT0 : Tbl W0 := tbl_keep hT (by rw [hb]; exact hBW)
  have hB0 : B ≤ W0.heap.size := Nat.le_trans hB hBW.size
  have hbW : b ≤ W0.heap.size := by rw [← hb]; exact hBW.size
  obtain ⟨q, hq⟩ : ∃ q, l.length = q := ⟨_, rfl⟩
  rw [hq] at hby
  have HBY := Lib.hid hby
  have HT0 := Lib.hid hT0
  have HQ := Lib.hid hq
  rw [hq] at hl ⊢
  obtain ⟨g, o, rfl⟩ : ∃ g o, A = some ⟨g, o, Option.none⟩ := by
    obtain ⟨A', c', hv, _, hx⟩ := h
    injection hv with e1 _ _
    subst e1
    obtain ⟨g, o, hA, _⟩ := hx (by omega)
    exact ⟨g, o, hA⟩
  have hqc := (bytA h).2
  rw [hq] at hqc
  have hlen : (l.drop N).length ≤ 1050000 := by rw [List.length_drop]; omega
  have HLEN := Lib.hid hlen
  have HS := Lib.hid hS
  rw [hq] at hN
  have HQN := Lib.hid hq
  clear h hT hT0 hby hlen hS
  go_enter Tryd.func34, Tryd.ntmps34
  go_wp2_with fail
  refine (wget_v _ B l W0 HBY.out hB0 (by rw [HQ.out]; exact hl) HT0.out ix st cf dt N 0 hr).mono ?_
  rintro e9 w1 ⟨rfl, h1⟩
  obtain ⟨W1, hW1⟩ : ∃ W1, w1.alloc (.cells #[.int .i64 ix, .int .i64 st, .string cf, .string dt] 33) = W1 := ⟨_, rfl⟩
  obtain ⟨sb, hsb⟩ : ∃ sb, w1.heap.size = sb := ⟨_, rfl⟩
  have h2 : Below sb w1 W1 := by rw [← hW1, ← hsb]; exact below_new _ _
  have hx : Rt W1 sb 33 [.int .i64 ix, .int .i64 st, .string cf, .string dt] := by rw [← hW1, ← hsb]; exact Rt.new _ _ _
  replace hy := (hy.below h1).below (by rw [hsb]; exact h2)
  have hbs : b ≤ sb := by rw [← hsb]; exact Nat.le_trans hbW h1.size
  have hb9 : b < sb := by rw [← hsb]; have := h1.size; have e9 : W0.heap.size = b + 1 := by rw [← hW0, ← hb]; simp
                          omega
  have hB1 := (hBW.trans (h1.mono hbW)).trans (h2.mono hbs)
  have hBs1 : b ≤ W1.heap.size := Nat.le_trans (by omega) hB1.size
  have HT1 := Lib.hid (tbl_keep (tbl_keep HT0.out h1) (by rw [hsb]; exact h2))
  have HBY1 := Lib.hid ((HBY.out.below h1 hB0).below (C := sb) h2 (by rw [← hsb]; exact Nat.le_trans hB0 h1.size))
  have hBB1 : B ≤ W1.heap.size := Nat.le_trans (Nat.le_trans hB0 h1.size) (by have := h2.size; omega)
  clear h1 h2 hBW hq HQ HT0 HBY hB0 hbW hW0
  by_cases hcN : c = N
  · have hcut0 := HBY1.out
    rw [← HQN.out] at hcut0
    have hcut := hcut0.cut (k := N) (by rw [HQN.out]; exact hN)
    rw [add_lit_10, if_pos hcN, HQN.out] at hcut
    clear hcut0
    subst hcN
    have HCUT := Lib.hid hcut
    clear hcut
    have hqc2 : q = c := by omega
    subst hqc2
    go_wp2_with fail
    rw [Nat.sub_self] at HCUT
    have hrun := Swscan_any _ B (l.drop q) W1 HCUT.out hBB1 HLEN.out HT1.out (fun _ => .inr ⟨g, o, _, by first | rfl | (rw [show q - N = 0 by have := HQN.out; rename_i hh; have h9 := congrArg List.length hh; rw [List.length_drop, List.length_nil] at h9; omega])⟩)
    refine hrun.mono ?_
    rintro e9 w3 ⟨L', us', er', v3, hS', rfl, hO3, h3⟩
    obtain ⟨rfl, rfl, rfl⟩ := HS.out.two hS'
    have HL6 := Lib.hid HS.out.len
    obtain ⟨A3, c3, rfl⟩ := own_slice hO3
    clear hrun hS' HS
    replace hy := hy.below h3
    have hB3 := hB1.trans (h3.mono hBs1)
    replace hx := hx.below h3
    have x0 := hx.cell (j := 0) rfl
    have x1 := hx.cell (j := 1) rfl
    have x2 := hx.cell (j := 2) rfl
    have x3 := hx.cell (j := 3) rfl
    clear hx hB1 h3
    have he2 : ((2 : Nat) == 2) = true := rfl
    obtain ⟨n, hn⟩ : ∃ n, L.length = n := ⟨_, rfl⟩
    rw [hn] at hO3 ⊢
    have HN := Lib.hid hn
    have hnb : n ≤ 1000000 := by have h61 := HL6.out; have h62 := HLEN.out; omega
    obtain ⟨ss, hss⟩ : ∃ ss, w3.heap.size = ss := ⟨_, rfl⟩
    obtain ⟨W4, hW4⟩ : ∃ W4, w3.alloc (.cells #[.int .i64 0, .int .i64 0, .int .i64 ix, .int .i64 st, .string cf, .string dt, .slice none 0 0] 52) = W4 := ⟨_, rfl⟩
    have hB4 : Below ss w3 W4 := by rw [← hW4, ← hss]; exact below_new _ _
    have hs4 : Rt W4 ss 52 ((base11 ⟨ix, st, cf, dt⟩).cs (.slice none 0 0)) := by rw [← hW4, ← hss]; exact Rt.new _ _ _
    have hbss : b < ss := by rw [← hss]; exact hy.lt
    have HY4 := Lib.hid (hy.below (by rw [hss]; exact hB4))
    have HB4 := Lib.hid (hB3.trans (hB4.mono (Nat.le_of_lt hbss)))
    have HR4 := Lib.hid (hO3.below (by rw [hss]; exact hB4))
    have hR4s : ∀ gr, A3.map (·.block) = some gr → gr < ss := by
      intro gr hgr
      rw [← hss]
      refine (World.ownsRow.lt hO3 gr ?_).2
      cases A3 with
      | none => cases hgr
      | some a => exact hgr
    have HW4 := Lib.hid hW4
    clear hn hB4 hy hB3 hO3 hW4
    go_wp2_with fail
    rw [HW4.out]
    go_loopw [38] (fun i wr => ∃ (j : Nat) (k' : Kst) (v' : Value), i = .int .i64 j ∧ j ≤ n ∧ play11 (base11 ⟨ix, st, cf, dt⟩) (L.take j) = some k' ∧ Rt wr ss 52 (k'.cs v') ∧ OwnEn ss v' k'.log wr ∧ Below ss W4 wr ∧ k'.log.length ≤ j ∧ k'.s = ⟨ix, st, cf, dt⟩) (fun i _ => n - (intOf i).toNat)
    case atStart => exact ⟨0, base11 ⟨ix, st, cf, dt⟩, _, rfl, Nat.zero_le _, rfl, hs4, OwnEn.nil _ _, Below.refl _ _, Nat.zero_le _, rfl⟩
    case round =>
      clear hs4
      obtain ⟨j, k', v', rfl, hj, hpl, hsr, hOr, hBr, hlr, hks⟩ := hrel
      obtain ⟨A5, c5, rfl⟩ := hOr.slice
      obtain ⟨m5, hm5⟩ : ∃ m5, k'.log.length = m5 := ⟨_, rfl⟩
      rw [hm5] at hOr hsr hlr
      by_cases hjn : j < n
      · have hjL : j < L.length := by rw [HN.out]; exact hjn
        have hji : (j : Int) < (n : Int) := by omega
        obtain ⟨⟨hd, rt, rv, ⟨rx, re, rk, rd⟩⟩, hxk⟩ : ∃ x, L[j] = x := ⟨_, rfl⟩
        obtain ⟨gr, rfl, hz1, hz2, hz3, hcc, hcells⟩ := HR4.out.at_ j hjL
        clear hz1 hz2 hz3
        rw [hxk] at hcells
        have hgr := hR4s gr rfl
        have r0 := (hBr.cell (p := ⟨gr, j * 7 + 0, none⟩) hgr).trans (hcells 0 _ rfl)
        have r1 := (hBr.cell (p := ⟨gr, j * 7 + 1, none⟩) hgr).trans (hcells 1 _ rfl)
        have r2 := (hBr.cell (p := ⟨gr, j * 7 + 2, none⟩) hgr).trans (hcells 2 _ rfl)
        have r3 := (hBr.cell (p := ⟨gr, j * 7 + 3, none⟩) hgr).trans (hcells 3 _ rfl)
        have r4 := (hBr.cell (p := ⟨gr, j * 7 + 4, none⟩) hgr).trans (hcells 4 _ rfl)
        have r5 := (hBr.cell (p := ⟨gr, j * 7 + 5, none⟩) hgr).trans (hcells 5 _ rfl)
        have r6 := (hBr.cell (p := ⟨gr, j * 7 + 6, none⟩) hgr).trans (hcells 6 _ rfl)
        rw [Nat.add_zero] at r0
        obtain ⟨k2, hk2⟩ : ∃ k2, play11 (base11 ⟨ix, st, cf, dt⟩) (L.take (j + 1)) = some k2 := play11_prefix hk _
        have hstep : take11 k' ⟨hd, rt, rv, ⟨rx, re, rk, rd⟩⟩ = some k2 := by
          rw [← hk2, List.take_succ_eq_append_getElem hjL, hxk, play11_snoc hpl]
        have hkl := take11_len hstep
        have HK2 := Lib.hid hk2
        have HST := Lib.hid hstep
        have HKS := Lib.hid hks
        have HM5 := Lib.hid hm5
        have HKL := Lib.hid hkl
        clear hcells hk2 hstep hxk hpl hks hm5 hkl
        go_wp2_with fail
        obtain ⟨W5, hW5⟩ : ∃ W5, wr.alloc (.cells #[.bool hd, .int .i64 rt, .int .i64 rv, .int .i64 rx, .int .i64 re, .int .i64 rk, .string rd] 88) = W5 := ⟨_, rfl⟩
        have h5 : Below wr.heap.size wr W5 := by rw [← hW5]; exact below_new _ _
        have hs5 := hsr.below h5
        have hO5 := hOr.below h5
        have hss5 : ss ≤ wr.heap.size := Nat.le_of_lt hsr.lt
        have hss6 : ss ≤ W5.heap.size := Nat.le_trans hss5 h5.size
        have hB5 := hBr.trans (h5.mono hss5)
        rw [hW5]
        have hix := maySnp10_is hm
        simp only at hix
        refine (ktake_any ss k' A5 m5 c5 hd rt rv rx re rk rd W5 hs5 (hO5.down (Nat.zero_le _)) (by rw [HKS.out]; exact ⟨hix.1, hix.2.1⟩) (by rw [HM5.out]; omega) (some k2) HST.out).mono ?_
        rintro e6 w6 h6
        obtain ⟨v6, rfl, g1, g2, g3, g4⟩ := h6
        have hO6 : OwnEn ss v6 k2.log w6 := g2.up (fun i hi => by
          rcases g3 with g3 | g3
          · rw [g3] at hi; exact (hO5.lt i hi).1
          · exact Nat.le_trans hss6 (g3 i hi))
        have hB6 := hB5.trans (g4.below (B := ss) (fun i hi => by
          rcases hi with hi | hi
          · omega
          · exact (hO5.lt i hi).1) hss6)
        clear hB5 g2 g3 g4 hs5 hO5 h5 hW5 hsr hOr hBr r0 r1 r2 r3 r4 r5 r6
        go_wp2
        go_roundw
        case rel => exact ⟨j + 1, k2, v6, by go_num, by omega, HK2.out, g1, hO6, hB6, by have := HKL.out.1; have := HM5.out; omega, by rw [HKL.out.2]; exact HKS.out⟩
        case measure => first | (simp [intOf]; omega) | (simp [intOf]; done)
      · have hjn2 : j = n := by omega
        subst hjn2
        have hkk : k' = k := by
          rw [← HN.out, List.take_length, hk] at hpl
          injection hpl with hpl
          exact hpl.symm
        subst hkk
        have hm200 : m5 ≤ 200 := by rw [← hm5]; exact hok.few
        have y0 := hsr.cell (j := 0) (v := .int .i64 k'.ht) rfl
        have y1 := hsr.cell (j := 1) (v := .int .i64 k'.hv) rfl
        have y2 := hsr.cell (j := 2) (v := .int .i64 k'.s.ix) rfl
        have y3 := hsr.cell (j := 3) (v := .int .i64 k'.s.st) rfl
        have y4 := hsr.cell (j := 4) (v := .string k'.s.conf) rfl
        have y5 := hsr.cell (j := 5) (v := .string k'.s.data) rfl
        have y6 := hsr.cell (j := 6) (v := .slice A5 m5 c5) rfl
        have hy := HY4.out.under hBr hbss
        have hB7 := HB4.out.trans (hBr.mono (Nat.le_of_lt hbss))
        clear hpl hks hm5 hlr y0 y1 y2 y3 y4 y5 y6
        have hle : decide ((m5 : Int) ≤ 200) = true := by simp; omega
        have hsum : (q : Int) + us ≤ 1050000 := by have h61 := HL6.out; have h62 := HLEN.out; have h63 := HQN.out; have h64 := h61.1; rw [List.length_drop] at h64; omega
        have hwq : IntKind.i64.wrap ((q : Int) + us) = (q : Int) + us := by rw [IntKind.wrap_i64]; omega
        go_wp2_with fail
        replace hsr : Rt wr.drew ss _ _ := hsr
        replace hy : Rt wr.drew b _ _ := hy
        replace hOr : OwnEn ss _ _ wr.drew := hOr
        replace hB7 : Below b w wr.drew := hB7.drew
        refine wp_region_noPanic ?_
        refine wp_region_held_drew (S := fun W => Rt W ss 52 (k'.cs (.slice A5 m5 c5))) (by kernel_rfl) ?_ (fun hHeld => ?_)
        · exact hsr
        generalize wr.drew = wz at *
        refine wpAnyH_take (i := 0) (oi := { dst := some 47, op := Op.load 52 (Operand.tmp 11), type := 52, pos := "state.go:34", after := #[], guard := none }) (v := .agg #[.int .i64 k'.ht, .int .i64 k'.hv, .int .i64 k'.s.ix, .int .i64 k'.s.st, .string k'.s.conf, .string k'.s.data, .slice A5 m5 c5]) rfl (by kernel_rfl) (by kernel_rfl) (by kernel_rfl) (fun _ _ _ h => h) (Or.inl ⟨by rfl, fun w hSw => ?_⟩) (by assumption) ?_
        · (try dsimp only at hSw)
          have q0 := hSw.cell (j := 0) (v := .int .i64 k'.ht) rfl
          have q1 := hSw.cell (j := 1) (v := .int .i64 k'.hv) rfl
          have q2 := hSw.cell (j := 2) (v := .int .i64 k'.s.ix) rfl
          have q3 := hSw.cell (j := 3) (v := .int .i64 k'.s.st) rfl
          have q4 := hSw.cell (j := 4) (v := .string k'.s.conf) rfl
          have q5 := hSw.cell (j := 5) (v := .string k'.s.data) rfl
          have q6 := hSw.cell (j := 6) (v := .slice A5 m5 c5) rfl
          go_simp
        try simp only [Act.put, List.setIfInBounds_toArray, List.set_cons_zero, List.set_cons_succ]
        refine wpAnyH_take (i := 1) (oi := { dst := some 48, op := Op.move (Operand.tmp 6), type := 3, pos := "state.go:34", after := #[{ on := 8, ground := Ground.gcOnly Departure.lateStores }], guard := none }) (v := .int .i64 q) rfl (by kernel_rfl) (by kernel_rfl) (by kernel_rfl) (fun _ _ _ h => h) (Or.inl ⟨by rfl, fun w hSw => ?_⟩) (by assumption) ?_
        · (try dsimp only at hSw)
          go_simp
        try simp only [Act.put, List.setIfInBounds_toArray, List.set_cons_zero, List.set_cons_succ]
        refine wpAnyH_take (i := 2) (oi := { dst := some 49, op := Op.move (Operand.tmp 9), type := 3, pos := "state.go:34", after := #[{ on := 8, ground := Ground.gcOnly Departure.lateStores }], guard := none }) (v := .int .i64 us) rfl (by kernel_rfl) (by kernel_rfl) (by kernel_rfl) (fun _ _ _ h => h) (Or.inl ⟨by rfl, fun w hSw => ?_⟩) (by assumption) ?_
        · (try dsimp only at hSw)
          go_simp
        try simp only [Act.put, List.setIfInBounds_toArray, List.set_cons_zero, List.set_cons_succ]
        refine wpAnyH_take (i := 3) (oi := { dst := some 50, op := Op.binOp BinOp.add 3 (Operand.tmp 48) (Operand.tmp 49) 3, type := 3, pos := "state.go:34", after := #[{ on := 1, ground := Ground.data }, { on := 2, ground := Ground.data }, { on := 8, ground := Ground.gcOnly Departure.lateStores }], guard := none }) (v := .int .i64 ((q : Int) + us)) rfl (by kernel_rfl) (by kernel_rfl) (by kernel_rfl) (fun _ _ _ h => h) (Or.inl ⟨by rfl, fun w hSw => ?_⟩) (by assumption) ?_
        · (try dsimp only at hSw)
          go_simp
        try simp only [Act.put, List.setIfInBounds_toArray, List.set_cons_zero, List.set_cons_succ]
        refine wpAnyH_take (i := 4) (oi := { dst := some 51, op := Op.fieldAddr 52 (Operand.tmp 11) 2, type := 0, pos := "state.go:34", after := #[], guard := none }) (v := .pointer (some ⟨ss, 6, none⟩)) rfl (by kernel_rfl) (by kernel_rfl) (by kernel_rfl) (fun _ _ _ h => h) (Or.inl ⟨by rfl, fun w hSw => ?_⟩) (by assumption) ?_
        · (try dsimp only at hSw)
          go_simp
        try simp only [Act.put, List.setIfInBounds_toArray, List.set_cons_zero, List.set_cons_succ]
        refine wpAnyH_take (i := 5) (oi := { dst := some 52, op := Op.load 22 (Operand.tmp 51), type := 22, pos := "state.go:34", after := #[{ on := 4, ground := Ground.data }], guard := none }) (v := .slice A5 m5 c5) rfl (by kernel_rfl) (by kernel_rfl) (by kernel_rfl) (fun _ _ _ h => h) (Or.inl ⟨by rfl, fun w hSw => ?_⟩) (by assumption) ?_
        · (try dsimp only at hSw)
          have q6 := hSw.cell (j := 6) (v := .slice A5 m5 c5) rfl
          go_simp
        try simp only [Act.put, List.setIfInBounds_toArray, List.set_cons_zero, List.set_cons_succ]
        refine wpAnyH_take (i := 6) (oi := { dst := some 53, op := Op.call { callee := Callee.builtin Builtin.len, args := #[Operand.tmp 52], argTypes := #[22] }, type := 3, pos := "state.go:34", after := #[{ on := 5, ground := Ground.data }], guard := none }) (v := .int .i64 m5) rfl (by kernel_rfl) (by kernel_rfl) (by kernel_rfl) (fun _ _ _ h => h) (Or.inl ⟨by rfl, fun w hSw => ?_⟩) (by assumption) ?_
        · (try dsimp only at hSw)
          go_simp
        try simp only [Act.put, List.setIfInBounds_toArray, List.set_cons_zero, List.set_cons_succ]
        refine wpAnyH_take (i := 7) (oi := { dst := some 54, op := Op.binOp BinOp.leq 3 (Operand.tmp 53) (Operand.const (Value.int IntKind.i64 200)) 3, type := 4, pos := "state.go:34", after := #[{ on := 6, ground := Ground.data }, { on := 9, ground := Ground.gcOnly Departure.lateStores }], guard := none }) (v := .bool true) rfl (by kernel_rfl) (by kernel_rfl) (by kernel_rfl) (fun _ _ _ h => h) (Or.inl ⟨by rfl, fun w hSw => ?_⟩) (by assumption) ?_
        · (try dsimp only at hSw)
          go_simp
        try simp only [Act.put, List.setIfInBounds_toArray, List.set_cons_zero, List.set_cons_succ]
        have hB9 := (((((((hB7.setCell (p := ⟨b, 0, none⟩) (Nat.le_refl b) (.int .i64 k'.ht)).setCell (p := ⟨b, 1, none⟩) (Nat.le_refl b) (.int .i64 k'.hv)).setCell (p := ⟨b, 2, none⟩) (Nat.le_refl b) (.int .i64 k'.s.ix)).setCell (p := ⟨b, 3, none⟩) (Nat.le_refl b) (.int .i64 k'.s.st)).setCell (p := ⟨b, 4, none⟩) (Nat.le_refl b) (.string k'.s.conf)).setCell (p := ⟨b, 5, none⟩) (Nat.le_refl b) (.string k'.s.data)).setCell (p := ⟨b, 6, none⟩) (Nat.le_refl b) (.slice A5 m5 c5))
        have hy9 := (((((((hy.set 0 (.int .i64 k'.ht)).set 1 (.int .i64 k'.hv)).set 2 (.int .i64 k'.s.ix)).set 3 (.int .i64 k'.s.st)).set 4 (.string k'.s.conf)).set 5 (.string k'.s.data)).set 6 (.slice A5 m5 c5))
        have HV9 := Lib.hid (show OwnEn w.heap.size (.slice A5 m5 c5) k'.log (((((((wz.setCell ⟨b, 0, none⟩ (.int .i64 k'.ht)).setCell ⟨b, 1, none⟩ (.int .i64 k'.hv)).setCell ⟨b, 2, none⟩ (.int .i64 k'.s.ix)).setCell ⟨b, 3, none⟩ (.int .i64 k'.s.st)).setCell ⟨b, 4, none⟩ (.string k'.s.conf)).setCell ⟨b, 5, none⟩ (.string k'.s.data)).setCell ⟨b, 6, none⟩ (.slice A5 m5 c5)) from ownsRow_setb (hOr.down (by rw [hb]; exact Nat.le_of_lt hbss)) hy (by decide) _ _ _ _ _ _ _)
        have hs9 := (Rt.other (Rt.other (Rt.other (Rt.other (Rt.other (Rt.other (Rt.other hsr 0 (.int .i64 k'.ht) (Nat.ne_of_gt hbss)) 1 (.int .i64 k'.hv) (Nat.ne_of_gt hbss)) 2 (.int .i64 k'.s.ix) (Nat.ne_of_gt hbss)) 3 (.int .i64 k'.s.st) (Nat.ne_of_gt hbss)) 4 (.string k'.s.conf) (Nat.ne_of_gt hbss)) 5 (.string k'.s.data) (Nat.ne_of_gt hbss)) 6 (.slice A5 m5 c5) (Nat.ne_of_gt hbss))
        have d0 := hy.cell (j := 0) rfl
        have e0 := hy.frz 0
        have d1 := hy.cell (j := 1) rfl
        have e1 := hy.frz 1
        have d2 := hy.cell (j := 2) rfl
        have e2 := hy.frz 2
        have d3 := hy.cell (j := 3) rfl
        have e3 := hy.frz 3
        have d4 := hy.cell (j := 4) rfl
        have e4 := hy.frz 4
        have d5 := hy.cell (j := 5) rfl
        have e5 := hy.frz 5
        have d6 := hy.cell (j := 6) rfl
        have e6 := hy.frz 6
        refine wpAnyH_ready (rs := [8]) (by kernel_rfl) (by simp) ?_
        refine AllReadyH.cons (o := { dst := none, op := Op.store 52 (Operand.tmp 2) (Operand.tmp 47), type := 0, pos := "state.go:34", after := #[{ on := 0, ground := Ground.data }, { on := 0, ground := Ground.phase }, { on := 1, ground := Ground.textOnly Departure.lateStores }, { on := 2, ground := Ground.textOnly Departure.lateStores }, { on := 3, ground := Ground.textOnly Departure.lateStores }, { on := 4, ground := Ground.textOnly Departure.lateStores }, { on := 5, ground := Ground.textOnly Departure.lateStores }, { on := 6, ground := Ground.textOnly Departure.lateStoresUnsure }, { on := 7, ground := Ground.textOnly Departure.lateStores }], guard := none }) rfl (fun K hK => ?_) AllReadyH.nil
        go_simp
        obtain ⟨W9, hW9⟩ : ∃ W9, (((((((wz.setCell ⟨b, 0, none⟩ (.int .i64 k'.ht)).setCell ⟨b, 1, none⟩ (.int .i64 k'.hv)).setCell ⟨b, 2, none⟩ (.int .i64 k'.s.ix)).setCell ⟨b, 3, none⟩ (.int .i64 k'.s.st)).setCell ⟨b, 4, none⟩ (.string k'.s.conf)).setCell ⟨b, 5, none⟩ (.string k'.s.data)).setCell ⟨b, 6, none⟩ (.slice A5 m5 c5)) = W9 := ⟨_, rfl⟩
        rw [hW9] at hB9 hy9 HV9 hs9 ⊢
        refine hK.out _ _ ?_ (fun hHeld => ?_)
        · exact hs9
        clear hK K
        try simp only [Act.put, List.setIfInBounds_toArray, List.set_cons_zero, List.set_cons_succ]
        refine wpAnyH_ready (rs := [9]) (by kernel_rfl) (by simp) ?_
        refine AllReadyH.cons (o := { dst := some 3, op := Op.assign (Operand.tmp 50), type := 3, pos := "state.go:34", after := #[{ on := 3, ground := Ground.data }, { on := 8, ground := Ground.chain }, { on := 0, ground := Ground.phase }, { on := 1, ground := Ground.phase }, { on := 2, ground := Ground.phase }, { on := 3, ground := Ground.phase }, { on := 4, ground := Ground.textOnly Departure.lateStores }, { on := 5, ground := Ground.textOnly Departure.lateStores }, { on := 6, ground := Ground.textOnly Departure.lateStoresUnsure }, { on := 7, ground := Ground.textOnly Departure.lateStores }, { on := 8, ground := Ground.phase }], guard := none }) rfl (fun K hK => ?_) AllReadyH.nil
        go_simp
        refine hK.out _ _ ?_ (fun hHeld => ?_)
        · exact hs9
        clear hK K
        try simp only [Act.put, List.setIfInBounds_toArray, List.set_cons_zero, List.set_cons_succ]
        refine wpAnyH_ready (rs := [10]) (by kernel_rfl) (by simp) ?_
        refine AllReadyH.cons (o := { dst := some 4, op := Op.assign (Operand.tmp 54), type := 4, pos := "state.go:34", after := #[{ on := 7, ground := Ground.data }, { on := 9, ground := Ground.chain }, { on := 0, ground := Ground.phase }, { on := 1, ground := Ground.phase }, { on := 2, ground := Ground.phase }, { on := 3, ground := Ground.phase }, { on := 4, ground := Ground.phase }, { on := 5, ground := Ground.phase }, { on := 6, ground := Ground.phase }, { on := 7, ground := Ground.phase }, { on := 8, ground := Ground.phase }, { on := 9, ground := Ground.phase }], guard := none }) rfl (fun K hK => ?_) AllReadyH.nil
        go_simp
        refine hK.out _ _ ?_ (fun hHeld => ?_)
        · exact hs9
        clear hK K
        try simp only [Act.put, List.setIfInBounds_toArray, List.set_cons_zero, List.set_cons_succ]
        refine wpAnyH_done (by kernel_rfl) ?_ _
        refine NoPanic.normal ?_
        have g0 := hy9.cell (j := 0) rfl
        have g1 := hy9.cell (j := 1) rfl
        have g2 := hy9.cell (j := 2) rfl
        have g3 := hy9.cell (j := 3) rfl
        have g4 := hy9.cell (j := 4) rfl
        have g5 := hy9.cell (j := 5) rfl
        have g6 := hy9.cell (j := 6) rfl
        go_wp2
        exact bodyPost_ret (v := .tuple #[.agg #[.int .i64 k'.ht, .int .i64 k'.hv, .int .i64 k'.s.ix, .int .i64 k'.s.st, .string k'.s.conf, .string k'.s.data, .slice A5 m5 c5], .int .i64 ((q : Int) + us), .bool true]) (by simp [results, Tryd.results34, go_sem, g0, g1, g2, g3, g4, g5, g6]) rfl ⟨_, rfl, HV9.out, by rw [hb]; exact hB9⟩
  · have hcut0 := HBY1.out
    rw [← HQN.out] at hcut0
    have hcut := hcut0.cut (k := N) (by rw [HQN.out]; exact hN)
    rw [add_lit_10, if_neg hcN, HQN.out] at hcut
    clear hcut0

    have HCUT := Lib.hid hcut
    clear hcut


    go_wp2_with fail

    have hrun := Swscan_any _ B (l.drop N) W1 HCUT.out hBB1 HLEN.out HT1.out (fun _ => .inr ⟨g, o + N, _, by first | rfl | (rw [show q - N = 0 by have := HQN.out; rename_i hh; have h9 := congrArg List.length hh; rw [List.length_drop, List.length_nil] at h9; omega])⟩)
    refine hrun.mono ?_
    rintro e9 w3 ⟨L', us', er', v3, hS', rfl, hO3, h3⟩
    obtain ⟨rfl, rfl, rfl⟩ := HS.out.two hS'
    have HL6 := Lib.hid HS.out.len
    obtain ⟨A3, c3, rfl⟩ := own_slice hO3
    clear hrun hS' HS
    replace hy := hy.below h3
    have hB3 := hB1.trans (h3.mono hBs1)
    replace hx := hx.below h3
    have x0 := hx.cell (j := 0) rfl
    have x1 := hx.cell (j := 1) rfl
    have x2 := hx.cell (j := 2) rfl
    have x3 := hx.cell (j := 3) rfl
    clear hx hB1 h3
    have he2 : ((2 : Nat) == 2) = true := rfl
    obtain ⟨n, hn⟩ : ∃ n, L.length = n := ⟨_, rfl⟩
    rw [hn] at hO3 ⊢
    have HN := Lib.hid hn
    have hnb : n ≤ 1000000 := by have h61 := HL6.out; have h62 := HLEN.out; omega
    obtain ⟨ss, hss⟩ : ∃ ss, w3.heap.size = ss := ⟨_, rfl⟩
    obtain ⟨W4, hW4⟩ : ∃ W4, w3.alloc (.cells #[.int .i64 0, .int .i64 0, .int .i64 ix, .int .i64 st, .string cf, .string dt, .slice none 0 0] 52) = W4 := ⟨_, rfl⟩
    have hB4 : Below ss w3 W4 := by rw [← hW4, ← hss]; exact below_new _ _
    have hs4 : Rt W4 ss 52 ((base11 ⟨ix, st, cf, dt⟩).cs (.slice none 0 0)) := by rw [← hW4, ← hss]; exact Rt.new _ _ _
    have hbss : b < ss := by rw [← hss]; exact hy.lt
    have HY4 := Lib.hid (hy.below (by rw [hss]; exact hB4))
    have HB4 := Lib.hid (hB3.trans (hB4.mono (Nat.le_of_lt hbss)))
    have HR4 := Lib.hid (hO3.below (by rw [hss]; exact hB4))
    have hR4s : ∀ gr, A3.map (·.block) = some gr → gr < ss := by
      intro gr hgr
      rw [← hss]
      refine (World.ownsRow.lt hO3 gr ?_).2
      cases A3 with
      | none => cases hgr
      | some a => exact hgr
    have HW4 := Lib.hid hW4
    clear hn hB4 hy hB3 hO3 hW4
    go_wp2_with fail
    rw [HW4.out]
    go_loopw [38] (fun i wr => ∃ (j : Nat) (k' : Kst) (v' : Value), i = .int .i64 j ∧ j ≤ n ∧ play11 (base11 ⟨ix, st, cf, dt⟩) (L.take j) = some k' ∧ Rt wr ss 52 (k'.cs v') ∧ OwnEn ss v' k'.log wr ∧ Below ss W4 wr ∧ k'.log.length ≤ j ∧ k'.s = ⟨ix, st, cf, dt⟩) (fun i _ => n - (intOf i).toNat)
    case atStart => exact ⟨0, base11 ⟨ix, st, cf, dt⟩, _, rfl, Nat.zero_le _, rfl, hs4, OwnEn.nil _ _, Below.refl _ _, Nat.zero_le _, rfl⟩
    case round =>
      clear hs4
      obtain ⟨j, k', v', rfl, hj, hpl, hsr, hOr, hBr, hlr, hks⟩ := hrel
      obtain ⟨A5, c5, rfl⟩ := hOr.slice
      obtain ⟨m5, hm5⟩ : ∃ m5, k'.log.length = m5 := ⟨_, rfl⟩
      rw [hm5] at hOr hsr hlr
      by_cases hjn : j < n
      · have hjL : j < L.length := by rw [HN.out]; exact hjn
        have hji : (j : Int) < (n : Int) := by omega
        obtain ⟨⟨hd, rt, rv, ⟨rx, re, rk, rd⟩⟩, hxk⟩ : ∃ x, L[j] = x := ⟨_, rfl⟩
        obtain ⟨gr, rfl, hz1, hz2, hz3, hcc, hcells⟩ := HR4.out.at_ j hjL
        clear hz1 hz2 hz3
        rw [hxk] at hcells
        have hgr := hR4s gr rfl
        have r0 := (hBr.cell (p := ⟨gr, j * 7 + 0, none⟩) hgr).trans (hcells 0 _ rfl)
        have r1 := (hBr.cell (p := ⟨gr, j * 7 + 1, none⟩) hgr).trans (hcells 1 _ rfl)
        have r2 := (hBr.cell (p := ⟨gr, j * 7 + 2, none⟩) hgr).trans (hcells 2 _ rfl)
        have r3 := (hBr.cell (p := ⟨gr, j * 7 + 3, none⟩) hgr).trans (hcells 3 _ rfl)
        have r4 := (hBr.cell (p := ⟨gr, j * 7 + 4, none⟩) hgr).trans (hcells 4 _ rfl)
        have r5 := (hBr.cell (p := ⟨gr, j * 7 + 5, none⟩) hgr).trans (hcells 5 _ rfl)
        have r6 := (hBr.cell (p := ⟨gr, j * 7 + 6, none⟩) hgr).trans (hcells 6 _ rfl)
        rw [Nat.add_zero] at r0
        obtain ⟨k2, hk2⟩ : ∃ k2, play11 (base11 ⟨ix, st, cf, dt⟩) (L.take (j + 1)) = some k2 := play11_prefix hk _
        have hstep : take11 k' ⟨hd, rt, rv, ⟨rx, re, rk, rd⟩⟩ = some k2 := by
          rw [← hk2, List.take_succ_eq_append_getElem hjL, hxk, play11_snoc hpl]
        have hkl := take11_len hstep
        have HK2 := Lib.hid hk2
        have HST := Lib.hid hstep
        have HKS := Lib.hid hks
        have HM5 := Lib.hid hm5
        have HKL := Lib.hid hkl
        clear hcells hk2 hstep hxk hpl hks hm5 hkl
        go_wp2_with fail
        obtain ⟨W5, hW5⟩ : ∃ W5, wr.alloc (.cells #[.bool hd, .int .i64 rt, .int .i64 rv, .int .i64 rx, .int .i64 re, .int .i64 rk, .string rd] 88) = W5 := ⟨_, rfl⟩
        have h5 : Below wr.heap.size wr W5 := by rw [← hW5]; exact below_new _ _
        have hs5 := hsr.below h5
        have hO5 := hOr.below h5
        have hss5 : ss ≤ wr.heap.size := Nat.le_of_lt hsr.lt
        have hss6 : ss ≤ W5.heap.size := Nat.le_trans hss5 h5.size
        have hB5 := hBr.trans (h5.mono hss5)
        rw [hW5]
        have hix := maySnp10_is hm
        simp only at hix
        refine (ktake_any ss k' A5 m5 c5 hd rt rv rx re rk rd W5 hs5 (hO5.down (Nat.zero_le _)) (by rw [HKS.out]; exact ⟨hix.1, hix.2.1⟩) (by rw [HM5.out]; omega) (some k2) HST.out).mono ?_
        rintro e6 w6 h6
        obtain ⟨v6, rfl, g1, g2, g3, g4⟩ := h6
        have hO6 : OwnEn ss v6 k2.log w6 := g2.up (fun i hi => by
          rcases g3 with g3 | g3
          · rw [g3] at hi; exact (hO5.lt i hi).1
          · exact Nat.le_trans hss6 (g3 i hi))
        have hB6 := hB5.trans (g4.below (B := ss) (fun i hi => by
          rcases hi with hi | hi
          · omega
          · exact (hO5.lt i hi).1) hss6)
        clear hB5 g2 g3 g4 hs5 hO5 h5 hW5 hsr hOr hBr r0 r1 r2 r3 r4 r5 r6
        go_wp2
        go_roundw
        case rel => exact ⟨j + 1, k2, v6, by go_num, by omega, HK2.out, g1, hO6, hB6, by have := HKL.out.1; have := HM5.out; omega, by rw [HKL.out.2]; exact HKS.out⟩
        case measure => first | (simp [intOf]; omega) | (simp [intOf]; done)
      · have hjn2 : j = n := by omega
        subst hjn2
        have hkk : k' = k := by
          rw [← HN.out, List.take_length, hk] at hpl
          injection hpl with hpl
          exact hpl.symm
        subst hkk
        have hm200 : m5 ≤ 200 := by rw [← hm5]; exact hok.few
        have y0 := hsr.cell (j := 0) (v := .int .i64 k'.ht) rfl
        have y1 := hsr.cell (j := 1) (v := .int .i64 k'.hv) rfl
        have y2 := hsr.cell (j := 2) (v := .int .i64 k'.s.ix) rfl
        have y3 := hsr.cell (j := 3) (v := .int .i64 k'.s.st) rfl
        have y4 := hsr.cell (j := 4) (v := .string k'.s.conf) rfl
        have y5 := hsr.cell (j := 5) (v := .string k'.s.data) rfl
        have y6 := hsr.cell (j := 6) (v := .slice A5 m5 c5) rfl
        have hy := HY4.out.under hBr hbss
        have hB7 := HB4.out.trans (hBr.mono (Nat.le_of_lt hbss))
        clear hpl hks hm5 hlr y0 y1 y2 y3 y4 y5 y6
        have hle : decide ((m5 : Int) ≤ 200) = true := by simp; omega
        have hsum : (N : Int) + us ≤ 1050000 := by have h61 := HL6.out; have h62 := HLEN.out; have h63 := HQN.out; have h64 := h61.1; rw [List.length_drop] at h64; omega
        have hwq : IntKind.i64.wrap ((N : Int) + us) = (N : Int) + us := by rw [IntKind.wrap_i64]; omega
        go_wp2_with fail
        replace hsr : Rt wr.drew ss _ _ := hsr
        replace hy : Rt wr.drew b _ _ := hy
        replace hOr : OwnEn ss _ _ wr.drew := hOr
        replace hB7 : Below b w wr.drew := hB7.drew
        refine wp_region_noPanic ?_
        refine wp_region_held_drew (S := fun W => Rt W ss 52 (k'.cs (.slice A5 m5 c5))) (by kernel_rfl) ?_ (fun hHeld => ?_)
        · exact hsr
        generalize wr.drew = wz at *
        refine wpAnyH_take (i := 0) (oi := { dst := some 47, op := Op.load 52 (Operand.tmp 11), type := 52, pos := "state.go:34", after := #[], guard := none }) (v := .agg #[.int .i64 k'.ht, .int .i64 k'.hv, .int .i64 k'.s.ix, .int .i64 k'.s.st, .string k'.s.conf, .string k'.s.data, .slice A5 m5 c5]) rfl (by kernel_rfl) (by kernel_rfl) (by kernel_rfl) (fun _ _ _ h => h) (Or.inl ⟨by rfl, fun w hSw => ?_⟩) (by assumption) ?_
        · (try dsimp only at hSw)
          have q0 := hSw.cell (j := 0) (v := .int .i64 k'.ht) rfl
          have q1 := hSw.cell (j := 1) (v := .int .i64 k'.hv) rfl
          have q2 := hSw.cell (j := 2) (v := .int .i64 k'.s.ix) rfl
          have q3 := hSw.cell (j := 3) (v := .int .i64 k'.s.st) rfl
          have q4 := hSw.cell (j := 4) (v := .string k'.s.conf) rfl
          have q5 := hSw.cell (j := 5) (v := .string k'.s.data) rfl
          have q6 := hSw.cell (j := 6) (v := .slice A5 m5 c5) rfl
          go_simp
        try simp only [Act.put, List.setIfInBounds_toArray, List.set_cons_zero, List.set_cons_succ]
        refine wpAnyH_take (i := 1) (oi := { dst := some 48, op := Op.move (Operand.tmp 6), type := 3, pos := "state.go:34", after := #[{ on := 8, ground := Ground.gcOnly Departure.lateStores }], guard := none }) (v := .int .i64 N) rfl (by kernel_rfl) (by kernel_rfl) (by kernel_rfl) (fun _ _ _ h => h) (Or.inl ⟨by rfl, fun w hSw => ?_⟩) (by assumption) ?_
        · (try dsimp only at hSw)
          go_simp
        try simp only [Act.put, List.setIfInBounds_toArray, List.set_cons_zero, List.set_cons_succ]
        refine wpAnyH_take (i := 2) (oi := { dst := some 49, op := Op.move (Operand.tmp 9), type := 3, pos := "state.go:34", after := #[{ on := 8, ground := Ground.gcOnly Departure.lateStores }], guard := none }) (v := .int .i64 us) rfl (by kernel_rfl) (by kernel_rfl) (by kernel_rfl) (fun _ _ _ h => h) (Or.inl ⟨by rfl, fun w hSw => ?_⟩) (by assumption) ?_
        · (try dsimp only at hSw)
          go_simp
        try simp only [Act.put, List.setIfInBounds_toArray, List.set_cons_zero, List.set_cons_succ]
        refine wpAnyH_take (i := 3) (oi := { dst := some 50, op := Op.binOp BinOp.add 3 (Operand.tmp 48) (Operand.tmp 49) 3, type := 3, pos := "state.go:34", after := #[{ on := 1, ground := Ground.data }, { on := 2, ground := Ground.data }, { on := 8, ground := Ground.gcOnly Departure.lateStores }], guard := none }) (v := .int .i64 ((N : Int) + us)) rfl (by kernel_rfl) (by kernel_rfl) (by kernel_rfl) (fun _ _ _ h => h) (Or.inl ⟨by rfl, fun w hSw => ?_⟩) (by assumption) ?_
        · (try dsimp only at hSw)
          go_simp
        try simp only [Act.put, List.setIfInBounds_toArray, List.set_cons_zero, List.set_cons_succ]
        refine wpAnyH_take (i := 4) (oi := { dst := some 51, op := Op.fieldAddr 52 (Operand.tmp 11) 2, type := 0, pos := "state.go:34", after := #[], guard := none }) (v := .pointer (some ⟨ss, 6, none⟩)) rfl (by kernel_rfl) (by kernel_rfl) (by kernel_rfl) (fun _ _ _ h => h) (Or.inl ⟨by rfl, fun w hSw => ?_⟩) (by assumption) ?_
        · (try dsimp only at hSw)
          go_simp
        try simp only [Act.put, List.setIfInBounds_toArray, List.set_cons_zero, List.set_cons_succ]
        refine wpAnyH_take (i := 5) (oi := { dst := some 52, op := Op.load 22 (Operand.tmp 51), type := 22, pos := "state.go:34", after := #[{ on := 4, ground := Ground.data }], guard := none }) (v := .slice A5 m5 c5) rfl (by kernel_rfl) (by kernel_rfl) (by kernel_rfl) (fun _ _ _ h => h) (Or.inl ⟨by rfl, fun w hSw => ?_⟩) (by assumption) ?_
        · (try dsimp only at hSw)
          have q6 := hSw.cell (j := 6) (v := .slice A5 m5 c5) rfl
          go_simp
        try simp only [Act.put, List.setIfInBounds_toArray, List.set_cons_zero, List.set_cons_succ]
        refine wpAnyH_take (i := 6) (oi := { dst := some 53, op := Op.call { callee := Callee.builtin Builtin.len, args := #[Operand.tmp 52], argTypes := #[22] }, type := 3, pos := "state.go:34", after := #[{ on := 5, ground := Ground.data }], guard := none }) (v := .int .i64 m5) rfl (by kernel_rfl) (by kernel_rfl) (by kernel_rfl) (fun _ _ _ h => h) (Or.inl ⟨by rfl, fun w hSw => ?_⟩) (by assumption) ?_
        · (try dsimp only at hSw)
          go_simp
        try simp only [Act.put, List.setIfInBounds_toArray, List.set_cons_zero, List.set_cons_succ]
        refine wpAnyH_take (i := 7) (oi := { dst := some 54, op := Op.binOp BinOp.leq 3 (Operand.tmp 53) (Operand.const (Value.int IntKind.i64 200)) 3, type := 4, pos := "state.go:34", after := #[{ on := 6, ground := Ground.data }, { on := 9, ground := Ground.gcOnly Departure.lateStores }], guard := none }) (v := .bool true) rfl (by kernel_rfl) (by kernel_rfl) (by kernel_rfl) (fun _ _ _ h => h) (Or.inl ⟨by rfl, fun w hSw => ?_⟩) (by assumption) ?_
        · (try dsimp only at hSw)
          go_simp
        try simp only [Act.put, List.setIfInBounds_toArray, List.set_cons_zero, List.set_cons_succ]
        have hB9 := (((((((hB7.setCell (p := ⟨b, 0, none⟩) (Nat.le_refl b) (.int .i64 k'.ht)).setCell (p := ⟨b, 1, none⟩) (Nat.le_refl b) (.int .i64 k'.hv)).setCell (p := ⟨b, 2, none⟩) (Nat.le_refl b) (.int .i64 k'.s.ix)).setCell (p := ⟨b, 3, none⟩) (Nat.le_refl b) (.int .i64 k'.s.st)).setCell (p := ⟨b, 4, none⟩) (Nat.le_refl b) (.string k'.s.conf)).setCell (p := ⟨b, 5, none⟩) (Nat.le_refl b) (.string k'.s.data)).setCell (p := ⟨b, 6, none⟩) (Nat.le_refl b) (.slice A5 m5 c5))
        have hy9 := (((((((hy.set 0 (.int .i64 k'.ht)).set 1 (.int .i64 k'.hv)).set 2 (.int .i64 k'.s.ix)).set 3 (.int .i64 k'.s.st)).set 4 (.string k'.s.conf)).set 5 (.string k'.s.data)).set 6 (.slice A5 m5 c5))
        have HV9 := Lib.hid (show OwnEn w.heap.size (.slice A5 m5 c5) k'.log (((((((wz.setCell ⟨b, 0, none⟩ (.int .i64 k'.ht)).setCell ⟨b, 1, none⟩ (.int .i64 k'.hv)).setCell ⟨b, 2, none⟩ (.int .i64 k'.s.ix)).setCell ⟨b, 3, none⟩ (.int .i64 k'.s.st)).setCell ⟨b, 4, none⟩ (.string k'.s.conf)).setCell ⟨b, 5, none⟩ (.string k'.s.data)).setCell ⟨b, 6, none⟩ (.slice A5 m5 c5)) from ownsRow_setb (hOr.down (by rw [hb]; exact Nat.le_of_lt hbss)) hy (by decide) _ _ _ _ _ _ _)
        have hs9 := (Rt.other (Rt.other (Rt.other (Rt.other (Rt.other (Rt.other (Rt.other hsr 0 (.int .i64 k'.ht) (Nat.ne_of_gt hbss)) 1 (.int .i64 k'.hv) (Nat.ne_of_gt hbss)) 2 (.int .i64 k'.s.ix) (Nat.ne_of_gt hbss)) 3 (.int .i64 k'.s.st) (Nat.ne_of_gt hbss)) 4 (.string k'.s.conf) (Nat.ne_of_gt hbss)) 5 (.string k'.s.data) (Nat.ne_of_gt hbss)) 6 (.slice A5 m5 c5) (Nat.ne_of_gt hbss))
        have d0 := hy.cell (j := 0) rfl
        have e0 := hy.frz 0
        have d1 := hy.cell (j := 1) rfl
        have e1 := hy.frz 1
        have d2 := hy.cell (j := 2) rfl
        have e2 := hy.frz 2
        have d3 := hy.cell (j := 3) rfl
        have e3 := hy.frz 3
        have d4 := hy.cell (j := 4) rfl
        have e4 := hy.frz 4
        have d5 := hy.cell (j := 5) rfl
        have e5 := hy.frz 5
        have d6 := hy.cell (j := 6) rfl
        have e6 := hy.frz 6
        refine wpAnyH_ready (rs := [8]) (by kernel_rfl) (by simp) ?_
        refine AllReadyH.cons (o := { dst := none, op := Op.store 52 (Operand.tmp 2) (Operand.tmp 47), type := 0, pos := "state.go:34", after := #[{ on := 0, ground := Ground.data }, { on := 0, ground := Ground.phase }, { on := 1, ground := Ground.textOnly Departure.lateStores }, { on := 2, ground := Ground.textOnly Departure.lateStores }, { on := 3, ground := Ground.textOnly Departure.lateStores }, { on := 4, ground := Ground.textOnly Departure.lateStores }, { on := 5, ground := Ground.textOnly Departure.lateStores }, { on := 6, ground := Ground.textOnly Departure.lateStoresUnsure }, { on := 7, ground := Ground.textOnly Departure.lateStores }], guard := none }) rfl (fun K hK => ?_) AllReadyH.nil
        go_simp
        obtain ⟨W9, hW9⟩ : ∃ W9, (((((((wz.setCell ⟨b, 0, none⟩ (.int .i64 k'.ht)).setCell ⟨b, 1, none⟩ (.int .i64 k'.hv)).setCell ⟨b, 2, none⟩ (.int .i64 k'.s.ix)).setCell ⟨b, 3, none⟩ (.int .i64 k'.s.st)).setCell ⟨b, 4, none⟩ (.string k'.s.conf)).setCell ⟨b, 5, none⟩ (.string k'.s.data)).setCell ⟨b, 6, none⟩ (.slice A5 m5 c5)) = W9 := ⟨_, rfl⟩
        rw [hW9] at hB9 hy9 HV9 hs9 ⊢
        refine hK.out _ _ ?_ (fun hHeld => ?_)
        · exact hs9
        clear hK K
        try simp only [Act.put, List.setIfInBounds_toArray, List.set_cons_zero, List.set_cons_succ]
        refine wpAnyH_ready (rs := [9]) (by kernel_rfl) (by simp) ?_
        refine AllReadyH.cons (o := { dst := some 3, op := Op.assign (Operand.tmp 50), type := 3, pos := "state.go:34", after := #[{ on := 3, ground := Ground.data }, { on := 8, ground := Ground.chain }, { on := 0, ground := Ground.phase }, { on := 1, ground := Ground.phase }, { on := 2, ground := Ground.phase }, { on := 3, ground := Ground.phase }, { on := 4, ground := Ground.textOnly Departure.lateStores }, { on := 5, ground := Ground.textOnly Departure.lateStores }, { on := 6, ground := Ground.textOnly Departure.lateStoresUnsure }, { on := 7, ground := Ground.textOnly Departure.lateStores }, { on := 8, ground := Ground.phase }], guard := none }) rfl (fun K hK => ?_) AllReadyH.nil
        go_simp
        refine hK.out _ _ ?_ (fun hHeld => ?_)
        · exact hs9
        clear hK K
        try simp only [Act.put, List.setIfInBounds_toArray, List.set_cons_zero, List.set_cons_succ]
        refine wpAnyH_ready (rs := [10]) (by kernel_rfl) (by simp) ?_
        refine AllReadyH.cons (o := { dst := some 4, op := Op.assign (Operand.tmp 54), type := 4, pos := "state.go:34", after := #[{ on := 7, ground := Ground.data }, { on := 9, ground := Ground.chain }, { on := 0, ground := Ground.phase }, { on := 1, ground := Ground.phase }, { on := 2, ground := Ground.phase }, { on := 3, ground := Ground.phase }, { on := 4, ground := Ground.phase }, { on := 5, ground := Ground.phase }, { on := 6, ground := Ground.phase }, { on := 7, ground := Ground.phase }, { on := 8, ground := Ground.phase }, { on := 9, ground := Ground.phase }], guard := none }) rfl (fun K hK => ?_) AllReadyH.nil
        go_simp
        refine hK.out _ _ ?_ (fun hHeld => ?_)
        · exact hs9
        clear hK K
        try simp only [Act.put, List.setIfInBounds_toArray, List.set_cons_zero, List.set_cons_succ]
        refine wpAnyH_done (by kernel_rfl) ?_ _
        refine NoPanic.normal ?_
        have g0 := hy9.cell (j := 0) rfl
        have g1 := hy9.cell (j := 1) rfl
        have g2 := hy9.cell (j := 2) rfl
        have g3 := hy9.cell (j := 3) rfl
        have g4 := hy9.cell (j := 4) rfl
        have g5 := hy9.cell (j := 5) rfl
        have g6 := hy9.cell (j := 6) rfl
        go_wp2
        exact bodyPost_ret (v := .tuple #[.agg #[.int .i64 k'.ht, .int .i64 k'.hv, .int .i64 k'.s.ix, .int .i64 k'.s.st, .string k'.s.conf, .string k'.s.data, .slice A5 m5 c5], .int .i64 ((N : Int) + us), .bool true]) (by simp [results, Tryd.results34, go_sem, g0, g1, g2, g3, g4, g5, g6]) rfl ⟨_, rfl, HV9.out, by rw [hb]; exact hB9⟩
end Go.Proofs.YtmoaacaopphgbaaDoor
/-
  A row of so many zeros that has just been made, and its text.
  There are at most 100,000,000.
-/
set_option linter.unusedSimpArgs false
set_option linter.unusedVariables false
namespace Go.Proofs.YtmoaacaopphgbaaDoor
open Go.RowKit
set_option maxRecDepth 100000

theorem made_bytes10 (n : Nat) : (madeCells (Value.int .u8 0).cells (n * 1)).toList = Lib.byteCells (List.replicate n 0) := by
  unfold Lib.byteCells madeCells
  rw [List.map_replicate]
  apply List.ext_getElem
  · simp
  · intro i h1 h2
    simp [Value.cells, Nat.mod_one]
theorem make_zer10 (n : Nat) (hn : n ≤ 100000000) (w : World) : (Instr.makeSlice 46 (.int .i64 (n : Int)) (.int .i64 (n : Int))).run Tryd.prog w = .ok (.slice (some ⟨w.heap.size, 0, none⟩) n n) (w.alloc (.cells (madeCells #[.int .u8 0] n) 5)) :=
  run_make_row' _ _ _ 1 Tryd.underlying46 Tryd.infoU8 rfl .i64 .i64 n (by omega) (by omega) w
theorem own_zer10 (n : Nat) (hn : n ≤ 100000000) (w : World) : OwnB w.heap.size (.slice (some ⟨w.heap.size, 0, none⟩) n n) (List.replicate n 0) (w.alloc (.cells (madeCells #[.int .u8 0] n) 5)) := by
  have e : (madeCells #[.int .u8 0] n).toList = Lib.byteCells (List.replicate n 0) := by have := made_bytes10 n; rw [Nat.mul_one] at this; exact this
  have e2 : (madeCells #[.int .u8 0] n).size = n := by rw [← Array.length_toList, e]; simp [Lib.byteCells]
  unfold OwnB
  rw [List.length_replicate]
  refine ⟨by simp [Lib.byteCells], .inr ⟨w.heap.size, n, madeCells #[.int .u8 0] n, rfl, Nat.le_refl _, heap_alloc_new _ _, Nat.le_refl _, by unfold maxLen; omega, by rw [e2, Nat.mul_one], ?_⟩⟩
  rw [e, Nat.mul_one, List.take_of_length_le (by simp [Lib.byteCells])]
def zerS (n : Nat) : ByteArray := ⟨(List.replicate n (0 : UInt8)).toArray⟩
theorem zerS_size (n : Nat) : (zerS n).size = n := by unfold zerS; show (List.replicate n (0 : UInt8)).toArray.size = n; simp
theorem conv_zer10 (n : Nat) (h1 : 1 ≤ n) (hn : n ≤ 100000000) (w : World) : (convert 46 9 (.slice (some ⟨w.heap.size, 0, none⟩) n n)).run Tryd.prog (w.alloc (.cells (madeCells #[.int .u8 0] n) 5)) = .ok (.string (zerS n)) (w.alloc (.cells (madeCells #[.int .u8 0] n) 5)) :=
  conv_own (own_zer10 n hn w) (by rw [List.length_replicate]; exact h1)
end Go.Proofs.YtmoaacaopphgbaaDoor
/-
  A byte of a row of one's own is read, and written.
  There are no conditions beyond those that each lemma names.
-/
set_option linter.unusedSimpArgs false
set_option linter.unusedVariables false
namespace Go.Proofs.YtmoaacaopphgbaaDoor
open Go.RowKit
set_option maxRecDepth 100000

theorem own_set10 {B g n c k : Nat} {y : UInt8} {l : List UInt8} {w : World} (h : OwnB B (.slice (some ⟨g, 0, none⟩) n c) l w) (hn : l.length = n) (hk : k < l.length) : OwnB B (.slice (some ⟨g, 0, none⟩) n c) (l.set k y) (w.setCell ⟨g, k, none⟩ (.int .u8 (y.toNat : Int))) := by
  unfold OwnB at *
  rw [List.length_set]
  subst hn
  have e : Lib.byteCells (l.set k y) = (Lib.byteCells l).set k (.int .u8 (y.toNat : Int)) := by unfold Lib.byteCells; rw [List.map_set]
  rw [e]
  refine ⟨by rw [List.length_set]; exact h.1, ?_⟩
  rcases h.2 with ⟨hv, _⟩ | ⟨g2, c2, cur, hv, hB, hg2, h1, h2, h3, h4⟩
  · cases hv
  · injection hv with e1 _ e3
    injection e1 with e1
    injection e1 with e1 _
    subst e1; subst e3
    refine .inr ⟨g, c, cur.setIfInBounds k (.int .u8 (y.toNat : Int)), rfl, hB, heap_setCell_same w g k cur _ _ hg2, h1, h2, by simpa using h3, ?_⟩
    rw [Array.toList_setIfInBounds, List.take_set, h4]
theorem own_at10 {B n c : Nat} {A : Option Addr} {l : List UInt8} {w : World} (h : OwnB B (.slice A n c) l w) (hn : l.length = n) (k : Nat) (hk : k < n) :
    ∃ g, A = some ⟨g, 0, none⟩ ∧ B ≤ g ∧ g < w.heap.size ∧ (∀ j, w.frozen? ⟨g, j, none⟩ = false) ∧ w.cell? ⟨g, k, none⟩ = some (.int .u8 ((l[k]'(by omega)).toNat : Int)) := by
  have hlt := h.lt
  have hc := fun (g : Nat) (hg : (Value.slice A n c).ownBlock = some g) => World.ownsRow.cells h hg
  rcases h.2 with ⟨hv, h0⟩ | ⟨g, c2, cur, hv, hB, hg, _⟩
  · omega
  · injection hv with e1 _ _
    subst e1
    refine ⟨g, rfl, hB, (hlt g rfl).2, fun j => frozen_of_row w g j cur _ hg, ?_⟩
    have h2 := hc g rfl k (.int .u8 ((l[k]'(by omega)).toNat : Int)) (by simp [Lib.byteCells, show k < l.length by omega])
    rw [Addr.add_mid, Nat.zero_add] at h2; exact h2
theorem u8_of10 (k : Nat) : IntKind.u8.wrap (k : Int) = ((UInt8.ofNat k).toNat : Int) := by
  rw [IntKind.wrap_u8]
  simp
end Go.Proofs.YtmoaacaopphgbaaDoor
/-
  The beginning of a row of one's own.
  There are no conditions beyond those that each lemma names.
-/
set_option linter.unusedSimpArgs false
set_option linter.unusedVariables false
namespace Go.Proofs.YtmoaacaopphgbaaDoor
open Go.RowKit
set_option maxRecDepth 100000

theorem own_take10 {B n c j : Nat} {A : Option Addr} {l : List UInt8} {w : World} (h : OwnB B (.slice A n c) l w) (hn : l.length = n) (hj : j ≤ n) : OwnB B (.slice A j c) (l.take j) w := by
  unfold OwnB at *
  have ej : (l.take j).length = j := by rw [List.length_take]; omega
  rw [ej]
  subst hn
  have e : Lib.byteCells (l.take j) = (Lib.byteCells l).take j := by unfold Lib.byteCells; rw [List.map_take]
  have ec : (Lib.byteCells l).length = l.length := by simp [Lib.byteCells]
  rw [e]
  refine ⟨by rw [List.length_take, ec]; omega, ?_⟩
  rcases h.2 with ⟨hv, h0⟩ | ⟨g2, c2, cur, hv, hB, hg2, h1, h2, h3, h4⟩
  · injection hv with e1 e2 e3
    subst e1; subst e3
    have : j = 0 := by omega
    subst this
    exact .inl ⟨rfl, rfl⟩
  · injection hv with e1 _ e3
    subst e1; subst e3
    refine .inr ⟨g2, c, cur, rfl, hB, hg2, by omega, h2, h3, ?_⟩
    rw [← h4, List.take_take]
    congr 1
    omega
end Go.Proofs.YtmoaacaopphgbaaDoor
/-
  Package keep's State and Open; what is asked of no keep.
  There are no conditions beyond those that each lemma names.
-/
set_option linter.unusedSimpArgs false
set_option linter.unusedVariables false
namespace Go.Proofs.YtmoaacaopphgbaaDoor
open Go.RowKit Go.Deep
set_option maxRecDepth 100000

set_option maxHeartbeats 1000000 in
/-- State of a keep -/
theorem kstate_any (S : Nat → Prop) (g d c : Nat) (k : Kst) (x : Fk) (w : World) (h : KB w S g d k x c) :
    Calls Tryd.prog 21 #[.pointer (some ⟨g, 0, none⟩)] w fun e w' => ∃ v, e = .returned (.agg #[.int .i64 k.ht, .int .i64 k.hv, .int .i64 k.s.ix, .int .i64 k.s.st, .string k.s.conf, .string k.s.data, v]) ∧ OwnEn w.heap.size v k.log w' ∧ Below w.heap.size w w' := by
  obtain ⟨b, hb⟩ : ∃ b, w.heap.size = b := ⟨_, rfl⟩
  obtain ⟨W0, hW0⟩ : ∃ W0, w.alloc (.cells #[.int .i64 0, .int .i64 0, .int .i64 0, .int .i64 0, .string ⟨#[]⟩, .string ⟨#[]⟩, .slice none 0 0] 52) = W0 := ⟨_, rfl⟩
  have hy : Rt W0 b 52 [.int .i64 0, .int .i64 0, .int .i64 0, .int .i64 0, .string ⟨#[]⟩, .string ⟨#[]⟩, .slice none 0 0] := by rw [← hW0, ← hb]; exact Rt.new _ _ _
  have hB : Below b w W0 := by rw [← hW0, ← hb]; exact below_new _ _
  have h0 := h.below (by rw [hb]; exact hB)
  obtain ⟨T, v, c0, hP, hc0, hx, hO, hTS, hSg, hTg, hv⟩ := h0.ex
  obtain ⟨A, mc, rfl⟩ := hO.slice
  have hs := maySnp10_is h.ok.snap
  have hcp := kcopy_any 52 g 1 k.ht k.hv k.s.ix k.s.st k.s.conf k.s.data k.log A k.log.length mc W0 (hx.cell (j := 1) rfl) (hx.cell (j := 2) rfl) (hx.cell (j := 3) rfl) (hx.cell (j := 4) rfl) (hx.cell (j := 5) rfl) (hx.cell (j := 6) rfl) (hx.cell (j := 7) rfl) _ (Ens.of_own hO) (by omega) (by omega) (by have := h.ok.few; omega) (fun e he => by have := mayEnt10_is (row11_may h.ok.ents e he); omega)
  have HC := Lib.hid hcp
  have hbl : b ≤ W0.heap.size := Nat.le_of_lt hy.lt
  clear hcp hx hO hP h h0 hs hv
  go_enter Tryd.func21, Tryd.ntmps21
  go_wp2_with fail
  refine HC.out.mono ?_
  rintro e w1 ⟨v1, rfl, hv1, h1⟩
  replace hy := hy.below h1
  have hB1 := hB.trans (h1.mono hbl)
  have hv2 : OwnEn w.heap.size v1 k.log w1 := hv1.down (by rw [hb]; exact hbl)
  obtain ⟨A3, c3, hv3⟩ := hv2.slice
  obtain ⟨n3, hn3⟩ : ∃ n3, k.log.length = n3 := ⟨_, rfl⟩
  rw [hn3] at hv3
  subst hv3
  have d0 := hy.cell (j := 0) rfl
  have e0 := hy.frz 0
  have d1 := hy.cell (j := 1) rfl
  have e1 := hy.frz 1
  have d2 := hy.cell (j := 2) rfl
  have e2 := hy.frz 2
  have d3 := hy.cell (j := 3) rfl
  have e3 := hy.frz 3
  have d4 := hy.cell (j := 4) rfl
  have e4 := hy.frz 4
  have d5 := hy.cell (j := 5) rfl
  have e5 := hy.frz 5
  have d6 := hy.cell (j := 6) rfl
  have e6 := hy.frz 6
  have hB9 := (((((((hB1.setCell (p := ⟨b, 0, none⟩) (Nat.le_refl b) (.int .i64 k.ht)).setCell (p := ⟨b, 1, none⟩) (Nat.le_refl b) (.int .i64 k.hv)).setCell (p := ⟨b, 2, none⟩) (Nat.le_refl b) (.int .i64 k.s.ix)).setCell (p := ⟨b, 3, none⟩) (Nat.le_refl b) (.int .i64 k.s.st)).setCell (p := ⟨b, 4, none⟩) (Nat.le_refl b) (.string k.s.conf)).setCell (p := ⟨b, 5, none⟩) (Nat.le_refl b) (.string k.s.data)).setCell (p := ⟨b, 6, none⟩) (Nat.le_refl b) (.slice A3 n3 c3))
  have hy9 := (((((((hy.set 0 (.int .i64 k.ht)).set 1 (.int .i64 k.hv)).set 2 (.int .i64 k.s.ix)).set 3 (.int .i64 k.s.st)).set 4 (.string k.s.conf)).set 5 (.string k.s.data)).set 6 (.slice A3 n3 c3))
  have HV9 := Lib.hid (show OwnEn w.heap.size (.slice A3 n3 c3) k.log (((((((w1.setCell ⟨b, 0, none⟩ (.int .i64 k.ht)).setCell ⟨b, 1, none⟩ (.int .i64 k.hv)).setCell ⟨b, 2, none⟩ (.int .i64 k.s.ix)).setCell ⟨b, 3, none⟩ (.int .i64 k.s.st)).setCell ⟨b, 4, none⟩ (.string k.s.conf)).setCell ⟨b, 5, none⟩ (.string k.s.data)).setCell ⟨b, 6, none⟩ (.slice A3 n3 c3)) from ownsRow_setb hv2 hy (by decide) _ _ _ _ _ _ _)
  obtain ⟨W9, hW9⟩ : ∃ W9, (((((((w1.setCell ⟨b, 0, none⟩ (.int .i64 k.ht)).setCell ⟨b, 1, none⟩ (.int .i64 k.hv)).setCell ⟨b, 2, none⟩ (.int .i64 k.s.ix)).setCell ⟨b, 3, none⟩ (.int .i64 k.s.st)).setCell ⟨b, 4, none⟩ (.string k.s.conf)).setCell ⟨b, 5, none⟩ (.string k.s.data)).setCell ⟨b, 6, none⟩ (.slice A3 n3 c3)) = W9 := ⟨_, rfl⟩
  rw [hW9] at hB9 hy9 HV9
  have g0 := hy9.cell (j := 0) rfl
  have g1 := hy9.cell (j := 1) rfl
  have g2 := hy9.cell (j := 2) rfl
  have g3 := hy9.cell (j := 3) rfl
  have g4 := hy9.cell (j := 4) rfl
  have g5 := hy9.cell (j := 5) rfl
  have g6 := hy9.cell (j := 6) rfl
  have HW9 := Lib.hid hW9
  clear hy hy9 hB1 hB hv1 hv2 h1 hW9 hn3
  go_wp2
  rw [HW9.out]
  exact bodyPost_ret (v := .agg #[.int .i64 k.ht, .int .i64 k.hv, .int .i64 k.s.ix, .int .i64 k.s.st, .string k.s.conf, .string k.s.data, .slice A3 n3 c3]) (by simp [results, Tryd.results21, go_sem, g0, g1, g2, g3, g4, g5, g6]) rfl ⟨_, rfl, HV9.out, by rw [hb]; exact hB9⟩
theorem khard_nil (t v : Int) (w : World) : Calls Tryd.prog 16 #[.pointer none, .agg #[.int .i64 t, .int .i64 v]] w fun e w' => e = .returned (.int .i64 12) ∧ Below w.heap.size w w' := by
  go_enter Tryd.func16, Tryd.ntmps16
  go_wp2
  go_ret
  exact ⟨rfl, below_new _ _⟩
theorem kwrite_nil (u : Value) (w : World) : Calls Tryd.prog 15 #[.pointer none, u] w fun e w' => e = .returned (.int .i64 12) ∧ Below w.heap.size w w' := by
  go_enter Tryd.func15, Tryd.ntmps15
  go_wp2
  go_ret
  exact ⟨rfl, Below.refl _ _⟩
theorem ksync_nil (w : World) : Calls Tryd.prog 22 #[.pointer none] w fun e w' => e = .returned (.int .i64 12) ∧ Below w.heap.size w w' := by
  go_enter Tryd.func22, Tryd.ntmps22
  go_wp2
  go_ret
  exact ⟨rfl, Below.refl _ _⟩
theorem ksnap_nil (a b : Int) (cf dt : ByteArray) (w : World) : Calls Tryd.prog 23 #[.pointer none, .agg #[.int .i64 a, .int .i64 b, .string cf, .string dt]] w fun e w' => e = .returned (.int .i64 12) ∧ Below w.heap.size w w' := by
  go_enter Tryd.func23, Tryd.ntmps23
  go_wp2
  go_ret
  exact ⟨rfl, below_new _ _⟩
theorem kstate_nil (w : World) : Calls Tryd.prog 21 #[.pointer none] w fun e w' => e = .returned (.agg #[.int .i64 0, .int .i64 0, .int .i64 0, .int .i64 0, .string ⟨#[]⟩, .string ⟨#[]⟩, .slice none 0 0]) ∧ Below w.heap.size w w' := by
  obtain ⟨b, hb⟩ : ∃ b, w.heap.size = b := ⟨_, rfl⟩
  obtain ⟨W0, hW0⟩ : ∃ W0, w.alloc (.cells #[.int .i64 0, .int .i64 0, .int .i64 0, .int .i64 0, .string ⟨#[]⟩, .string ⟨#[]⟩, .slice none 0 0] 52) = W0 := ⟨_, rfl⟩
  have hy : Rt W0 b 52 [.int .i64 0, .int .i64 0, .int .i64 0, .int .i64 0, .string ⟨#[]⟩, .string ⟨#[]⟩, .slice none 0 0] := by rw [← hW0, ← hb]; exact Rt.new _ _ _
  have hB : Below b w W0 := by rw [← hW0, ← hb]; exact below_new _ _
  have d0 := hy.cell (j := 0) rfl
  have e0 := hy.frz 0
  have d1 := hy.cell (j := 1) rfl
  have e1 := hy.frz 1
  have d2 := hy.cell (j := 2) rfl
  have e2 := hy.frz 2
  have d3 := hy.cell (j := 3) rfl
  have e3 := hy.frz 3
  have d4 := hy.cell (j := 4) rfl
  have e4 := hy.frz 4
  have d5 := hy.cell (j := 5) rfl
  have e5 := hy.frz 5
  have d6 := hy.cell (j := 6) rfl
  have e6 := hy.frz 6
  have hB9 := (((((((hB.setCell (p := ⟨b, 0, none⟩) (Nat.le_refl b) (.int .i64 0)).setCell (p := ⟨b, 1, none⟩) (Nat.le_refl b) (.int .i64 0)).setCell (p := ⟨b, 2, none⟩) (Nat.le_refl b) (.int .i64 0)).setCell (p := ⟨b, 3, none⟩) (Nat.le_refl b) (.int .i64 0)).setCell (p := ⟨b, 4, none⟩) (Nat.le_refl b) (.string ⟨#[]⟩)).setCell (p := ⟨b, 5, none⟩) (Nat.le_refl b) (.string ⟨#[]⟩)).setCell (p := ⟨b, 6, none⟩) (Nat.le_refl b) (.slice none 0 0))
  have hy9 := (((((((hy.set 0 (.int .i64 0)).set 1 (.int .i64 0)).set 2 (.int .i64 0)).set 3 (.int .i64 0)).set 4 (.string ⟨#[]⟩)).set 5 (.string ⟨#[]⟩)).set 6 (.slice none 0 0))
  obtain ⟨W9, hW9⟩ : ∃ W9, (((((((W0.setCell ⟨b, 0, none⟩ (.int .i64 0)).setCell ⟨b, 1, none⟩ (.int .i64 0)).setCell ⟨b, 2, none⟩ (.int .i64 0)).setCell ⟨b, 3, none⟩ (.int .i64 0)).setCell ⟨b, 4, none⟩ (.string ⟨#[]⟩)).setCell ⟨b, 5, none⟩ (.string ⟨#[]⟩)).setCell ⟨b, 6, none⟩ (.slice none 0 0)) = W9 := ⟨_, rfl⟩
  rw [hW9] at hB9 hy9
  have g0 := hy9.cell (j := 0) rfl
  have g1 := hy9.cell (j := 1) rfl
  have g2 := hy9.cell (j := 2) rfl
  have g3 := hy9.cell (j := 3) rfl
  have g4 := hy9.cell (j := 4) rfl
  have g5 := hy9.cell (j := 5) rfl
  have g6 := hy9.cell (j := 6) rfl
  have HW9 := Lib.hid hW9
  clear hy hy9 hB hW9
  go_enter Tryd.func21, Tryd.ntmps21
  go_wp2
  rw [HW9.out]
  exact bodyPost_ret (v := .agg #[.int .i64 0, .int .i64 0, .int .i64 0, .int .i64 0, .string ⟨#[]⟩, .string ⟨#[]⟩, .slice none 0 0]) (by simp [results, Tryd.results21, go_sem, g0, g1, g2, g3, g4, g5, g6]) rfl ⟨rfl, by rw [hb]; exact hB9⟩
theorem kb_new {w w1 w2 : World} {T : Nat → Prop} {d c c0 : Nat} {k : Kst} {x : Fk} {v : Value} (hok : KOk k) (hpos : ∀ b f, x = some (b, f) → 1 ≤ b.length) (hP : PD w1 T d (files11 x) c0) (hlt : ∀ j, T j → j < w.heap.size) (hs : w.heap.size ≤ w1.heap.size) (h2 : Below w1.heap.size w1 w2)
    (hx : Rt w2 w1.heap.size 75 (kcs11 d k v (size11 x))) (hO : OwnEn 0 v k.log w1) (hc : c0 ≤ c) (hv : ∀ j, v.ownBlock = some j → w.heap.size ≤ j) : KB w2 (Grw T w w2) w1.heap.size d k x c := by
  have hg := hx.lt
  refine ⟨hok, hpos, Grw.lt hlt (Nat.le_trans hs h2.size), T, v, c0, hP.below h2, hc, hx, hO.below h2, fun j hj => .inl hj, .inr ⟨hs, hg⟩, fun e => by have := hlt _ e; omega, fun j hj => ⟨.inr ⟨hv j hj, Nat.lt_of_lt_of_le (OwnEn.lt hO j hj).2 h2.size⟩, fun e => by have := hlt _ e; have := hv j hj; omega⟩⟩
/-- Open: no file -/
theorem kopen_none (T : Nat → Prop) (d c0 : Nat) (w : World) (h : PD w T d (files11 none) c0) :
    Calls Tryd.prog 12 #[.pointer (some ⟨d, 0, none⟩)] w fun e w' => ∃ g, e = .returned (.tuple #[.pointer (some ⟨g, 0, none⟩), .int .i64 0]) ∧ KB w' (Grw T w w') g d zKst none c0 ∧ Below w.heap.size w w' := by
  have hr := read9_no T d (files11 none) c0 stateN w h stateN_le rfl
  have HR := Lib.hid hr
  have H := Lib.hid h
  clear hr h
  go_enter Tryd.func12, Tryd.ntmps12
  go_wp2_with fail
  refine HR.out.mono ?_
  rintro e w1 ⟨rfl, h1⟩
  go_wp2
  obtain ⟨b, hb⟩ : ∃ b, w1.heap.size = b := ⟨_, rfl⟩
  have h2 := below_new w1 (.cells #[.pointer (some ⟨d, 0, none⟩), .int .i64 0, .int .i64 0, .int .i64 0, .int .i64 0, .string ⟨#[]⟩, .string ⟨#[]⟩, .slice none 0 0, .int .i64 0] 75)
  have hx := Rt.new w1 75 (kcs11 d zKst (.slice none 0 0) 0)
  have hn := kb_new (w := w) (x := none) zKst_ok (fun b f e => by cases e) (H.out.below h1) H.out.lt h1.size h2 hx (OwnEn.nil _ _) (Nat.le_refl c0) (fun j hj => by cases hj)
  exact bodyPost_ret (v := .tuple #[.pointer (some ⟨w1.heap.size, 0, none⟩), .int .i64 0]) (by simp [results, Tryd.results12, go_sem]) rfl ⟨_, rfl, hn, h1.trans (h2.mono h1.size)⟩
theorem kopen_no1 (T : Nat → Prop) (d c0 : Nat) (b : List UInt8) (f : Nat) (w : World) (h : PD w T d (files11 (some (b, f))) c0) (hT : Tbl w) (n e : Nat) (hr : getS10 b = (zSnp, n, e)) (he : e ≠ 0) :
    Calls Tryd.prog 12 #[.pointer (some ⟨d, 0, none⟩)] w fun e w' => e = .returned (.tuple #[.pointer none, .int .i64 3]) ∧ Below w.heap.size w w' := by
  have hbl : b.length ≤ 1048576 := (h.good.2 ⟨stateN, b, f, true⟩ (by simp [files11])).2.2.1
  have hrd := read9_yes T d (files11 (some (b, f))) c0 stateN ⟨stateN, b, f, true⟩ w h stateN_le (getF11 _)
  have HR := Lib.hid hrd
  clear hrd h
  go_enter Tryd.func12, Tryd.ntmps12
  go_wp2_with fail
  refine HR.out.mono ?_
  rintro e w1 ⟨v1, rfl, hv1, h1⟩
  have hkr := kread_no1 v1 _ b w1 (Byt.of_own hv1) (Nat.le_refl _) (by omega) (tbl_keep hT h1) n e hr he
  have HK := Lib.hid hkr
  obtain ⟨A7, c7, rfl⟩ := own_slice hv1
  clear hkr hv1
  go_wp2_with fail
  refine HK.out.mono ?_
  rintro e w2 ⟨rfl, h2⟩
  go_wp2
  have hb := h1.trans (h2.mono h1.size)
  exact bodyPost_ret (v := .tuple #[.pointer none, .int .i64 3]) (by simp [results, Tryd.results12, go_sem]) rfl ⟨rfl, by first | exact hb | exact hb.alloc hb.size _⟩
theorem kopen_no2 (T : Nat → Prop) (d c0 : Nat) (b : List UInt8) (f : Nat) (w : World) (h : PD w T d (files11 (some (b, f))) c0) (hT : Tbl w) (ix st : Int) (cf dt : ByteArray) (N : Nat) (hr : getS10 b = (⟨ix, st, cf, dt⟩, N, 0)) (hN0 : 1 ≤ N) (hN : N ≤ b.length) (L : List Rcd) (us er : Nat) (hS : ScR (b.drop N) L us er) (he : er ≠ 2) :
    Calls Tryd.prog 12 #[.pointer (some ⟨d, 0, none⟩)] w fun e w' => e = .returned (.tuple #[.pointer none, .int .i64 3]) ∧ Below w.heap.size w w' := by
  have hbl : b.length ≤ 1048576 := (h.good.2 ⟨stateN, b, f, true⟩ (by simp [files11])).2.2.1
  have hrd := read9_yes T d (files11 (some (b, f))) c0 stateN ⟨stateN, b, f, true⟩ w h stateN_le (getF11 _)
  have HR := Lib.hid hrd
  clear hrd h
  go_enter Tryd.func12, Tryd.ntmps12
  go_wp2_with fail
  refine HR.out.mono ?_
  rintro e w1 ⟨v1, rfl, hv1, h1⟩
  have hkr := kread_no2 v1 _ b w1 (Byt.of_own hv1) (Nat.le_refl _) (by omega) (tbl_keep hT h1) ix st cf dt N hr hN0 hN L us er hS he
  have HK := Lib.hid hkr
  obtain ⟨A7, c7, rfl⟩ := own_slice hv1
  clear hkr hv1
  go_wp2_with fail
  refine HK.out.mono ?_
  rintro e w2 ⟨rfl, h2⟩
  go_wp2
  have hb := h1.trans (h2.mono h1.size)
  exact bodyPost_ret (v := .tuple #[.pointer none, .int .i64 3]) (by simp [results, Tryd.results12, go_sem]) rfl ⟨rfl, by first | exact hb | exact hb.alloc hb.size _⟩
set_option maxHeartbeats 1000000 in
theorem kopen_yes (T : Nat → Prop) (d c0 : Nat) (b : List UInt8) (f : Nat) (w : World) (h : PD w T d (files11 (some (b, f))) c0) (hc : c0 ≤ 900000) (hT : Tbl w) (ix st : Int) (cf dt : ByteArray) (N : Nat) (hr : getS10 b = (⟨ix, st, cf, dt⟩, N, 0)) (hN0 : 1 ≤ N) (hN : N ≤ b.length) (L : List Rcd) (us : Nat) (hS : ScR (b.drop N) L us 2) (k : Kst) (hk : play11 (base11 ⟨ix, st, cf, dt⟩) L = some k) (hok : KOk k) (hm : maySnp10 ⟨ix, st, cf, dt⟩ = true) (hus : N + us ≤ b.length) (hf : f = b.length) :
    Calls Tryd.prog 12 #[.pointer (some ⟨d, 0, none⟩)] w fun e w' => ∃ g, e = .returned (.tuple #[.pointer (some ⟨g, 0, none⟩), .int .i64 0]) ∧ KB w' (Grw T w w') g d k (some (b.take (N + us), N + us)) (c0 + 1) ∧ Off T w w' := by
  have hbl : b.length ≤ 1048576 := (h.good.2 ⟨stateN, b, f, true⟩ (by simp [files11])).2.2.1
  have hrd := read9_yes T d (files11 (some (b, f))) c0 stateN ⟨stateN, b, f, true⟩ w h stateN_le (getF11 _)
  have HR := Lib.hid hrd
  have H := Lib.hid h
  clear hrd h
  obtain ⟨n, hn⟩ : ∃ n, N + us = n := ⟨_, rfl⟩
  rw [hn]
  go_enter Tryd.func12, Tryd.ntmps12
  go_wp2_with fail
  refine HR.out.mono ?_
  rintro e w1 ⟨v1, rfl, hv1, h1⟩
  obtain ⟨A7, c7, rfl⟩ := own_slice hv1
  obtain ⟨q, hq⟩ : ∃ q, b.length = q := ⟨_, rfl⟩
  simp only at hv1 ⊢
  rw [hq] at hv1 ⊢
  have hkr := kread_yes (.slice A7 q c7) _ b w1 (Byt.of_own hv1) (Nat.le_refl _) (by omega) (tbl_keep hT h1) ix st cf dt N hr hN0 hN L us hS k hk hok hm
  have HK := Lib.hid hkr
  rw [hq, hn] at hus
  rw [hn] at HK
  have HQ := Lib.hid hq
  have HV := Lib.hid hv1
  have hqb : q ≤ 1048576 := by omega
  clear hkr hv1 hq
  go_wp2_with fail
  refine HK.out.mono ?_
  rintro e w2 ⟨v2, rfl, hv2, h2⟩
  obtain ⟨A2, c2, hv2e⟩ := hv2.slice
  obtain ⟨m2, hm2⟩ : ∃ m2, k.log.length = m2 := ⟨_, rfl⟩
  rw [hm2] at hv2e
  subst hv2e
  clear hm2
  have hqc := (bytA (Byt.of_own HV.out)).2
  obtain ⟨W3, hW3⟩ : ∃ W3, w2.alloc (.cells #[.int .i64 k.ht, .int .i64 k.hv, .int .i64 k.s.ix, .int .i64 k.s.st, .string k.s.conf, .string k.s.data, .slice A2 m2 c2] 52) = W3 := ⟨_, rfl⟩
  have h3 : Below w2.heap.size w2 W3 := by rw [← hW3]; exact below_new _ _
  obtain ⟨kb, hkb⟩ : ∃ kb, w2.heap.size + 1 = kb := ⟨_, rfl⟩
  have hkb2 : W3.heap.size = kb := by rw [← hW3, ← hkb]; simp
  obtain ⟨W4, hW4⟩ : ∃ W4, W3.alloc (.cells (kcs11 d k (.slice A2 m2 c2) n).toArray 75) = W4 := ⟨_, rfl⟩
  have h4 : Below W3.heap.size W3 W4 := by rw [← hW4]; exact below_new _ _
  have hx4 : Rt W4 W3.heap.size 75 (kcs11 d k (.slice A2 m2 c2) n) := by rw [← hW4]; exact Rt.new _ _ _
  have hB13 : Below w1.heap.size w1 W3 := h2.trans (h3.mono h2.size)
  have hB3 := h1.trans (hB13.mono h1.size)
  have hnl : n ≤ q := hus
  have hkb9 : W4 = (w2.alloc (.cells #[.int .i64 k.ht, .int .i64 k.hv, .int .i64 k.s.ix, .int .i64 k.s.st, .string k.s.conf, .string k.s.data, .slice A2 m2 c2] 52)).alloc (.cells #[.pointer (some ⟨d, 0, none⟩), .int .i64 k.ht, .int .i64 k.hv, .int .i64 k.s.ix, .int .i64 k.s.st, .string k.s.conf, .string k.s.data, .slice A2 m2 c2, .int .i64 n] 75) := by rw [hW3, ← hW4]; rfl
  have hsz : size11 (some (b, f)) = q := HQ.out
  have HW3 := Lib.hid hW3
  clear hW3
  by_cases hnq : n = q
  · subst hnq
    have hn9 := kb_new (w := w) (x := some (b, f)) (c := c0 + 1) hok (fun b' f' e => by injection e with e; injection e with e _; subst e; omega) (H.out.below hB3) H.out.lt hB3.size h4 (by rw [hsz]; exact hx4) (hv2.below h3 |>.down (Nat.zero_le _)) (by omega) (fun j hj => Nat.le_trans h1.size (hv2.lt j hj).1)
    rw [hkb2] at hn9
    have e9 : (b.take n, n) = (b, f) := by rw [hf, HQ.out, ← HQ.out, List.take_length]
    rw [← e9] at hn9
    have HN9 := Lib.hid hn9
    have HO9 := Lib.hid (Off.of_below (S := T) (hB3.trans (h4.mono hB3.size)))
    have HKB := Lib.hid hkb9
    clear hn9 hW4 hx4 h3 h4 hB13 hB3 hkb9 e9 hkb2 hv2 h2
    go_wp2
    rw [← HKB.out]
    exact bodyPost_ret (v := .tuple #[.pointer (some ⟨kb, 0, none⟩), .int .i64 0]) (by simp [results, Tryd.results12, go_sem]) rfl ⟨_, rfl, HN9.out, HO9.out⟩
  · have hnb : ((n : Int) == (q : Int)) = false := by simp; omega
    have HW := Lib.hid (OwnB.below (HV.out) (hB13.trans (h4.mono hB13.size)))
    obtain ⟨g7, rfl⟩ := own_some (l := b) HV.out (by have := HQ.out; omega)
    have HBt := Lib.hid (own_take10 HW.out HQ.out hnl)
    have hlen : (b.take n).length = n := by rw [List.length_take, HQ.out]; omega
    have hTl := H.out.lt
    have h14 := h1.trans (hB13.mono h1.size) |>.trans (h4.mono (Nat.le_trans h1.size hB13.size))
    have hs4 : W3.heap.size < W4.heap.size := hx4.lt
    have hb3s := hB3.size
    have hg7 := OwnB.lt HV.out g7 rfl
    have hsz1 := h1.size
    have hsz2 := h2.size
    have hsz3 := h3.size
    have hsw := kswap0 (fun i => T i ∨ i = kb ∨ (Value.slice A2 m2 c2).ownBlock = some i) T kb d c0 c0 n k (some (b, f)) (.slice A2 m2 c2) (some ⟨g7, 0, none⟩) n c7 (b.take n) W4 hok
      (fun i hi => by
        rcases hi with hi | hi | hi
        · exact Nat.lt_of_lt_of_le (hTl i hi) h14.size
        · omega
        · have := (hv2.lt i hi).2; have := h4.size; omega)
      (H.out.below h14) (Nat.le_refl _) (by rw [← hkb2]; exact hx4) ((hv2.below h3).below h4 |>.down (Nat.zero_le _)) (fun j hj => .inl hj) (.inr (.inl rfl)) (fun e => by have := hTl _ e; omega)
      (fun j hj => ⟨.inr (.inr hj), fun e => by have h8 := hTl _ e; have h9 := (hv2.lt j hj).1; omega⟩) (by omega)
      (Safe9.of_own HBt.out (fun j hj hs => by
        have e7 : g7 = j := Option.some.inj (show some g7 = some j from hj)
        subst e7
        rcases hs with hs | hs | hs
        · have := hTl _ hs; omega
        · omega
        · have := (hv2.lt _ hs).1; omega)) (by omega) (by omega) hlen.symm
    have HO9 := Lib.hid (Off.of_below (S := T) (hB3.trans (h4.mono hB3.size)))
    have HV2 := Lib.hid hv2
    have HKB := Lib.hid hkb9
    have HSW := Lib.hid hsw
    have hk4 : kb < W4.heap.size := by omega
    have h42 : w2.heap.size ≤ W4.heap.size := Nat.le_trans hsz3 h4.size
    clear hsw hW4 hx4 h3 h4 hB13 hB3 hkb9 hkb2 hv2 h2
    go_wp2_with fail
    rw [← HKB.out]
    refine HSW.out.mono ?_
    rintro e w6 ⟨⟨rfl, hK6, hO6⟩, _⟩
    go_wp2
    rw [hlen] at hK6
    have hO7 : Off T w w6 := HO9.out.trans hO6 (fun i hi => by
      rcases hi with hi | hi | hi
      · exact .inl hi
      · exact .inr (by omega)
      · exact .inr (by have := (HV2.out.lt i hi).1; omega))
    refine bodyPost_ret (v := .tuple #[.pointer (some ⟨kb, 0, none⟩), .int .i64 0]) (by simp [results, Tryd.results12, go_sem]) rfl ⟨_, rfl, hK6.more (fun i hi => ?_) (Grw.lt hTl hO7.size) (Nat.le_refl _), hO7⟩
    have h6s := hO6.size
    rcases hi with hi | hi
    · rcases hi with hi | hi | hi
      · exact .inl hi
      · exact .inr ⟨by omega, by omega⟩
      · exact .inr ⟨by have := (HV2.out.lt i hi).1; omega, by have := (HV2.out.lt i hi).2; omega⟩
    · exact .inr ⟨by have := HO9.out.size; omega, hi.2⟩
end Go.Proofs.YtmoaacaopphgbaaDoor
/-
  Package disk's Crash: what lasts of each file, and of its loose bytes so many.
  The disk has at most 100,000 files.
-/
set_option linter.unusedSimpArgs false
set_option linter.unusedVariables false
namespace Go.Proofs.YtmoaacaopphgbaaDoor
open Go.RowKit
set_option maxRecDepth 100000

set_option maxHeartbeats 2000000 in
theorem fcrash9_neg (A : Option Addr) (q ca fa k : Nat) (th : Bool) (bs : List UInt8) (n : Int) (w : World) (hb : Byt w w.heap.size (.slice A q ca) bs) (hq : bs.length = q) (hfa : fa ≤ q) (hq2 : q ≤ 1048576) (hn : ¬ 0 < n) (hn2 : n < 9223372036854775808)
    (hk : k = 0) (hkq : fa + k ≤ q) :
    Calls Tryd.prog 55 #[.agg #[.slice A q ca, .int .i64 ((fa : Nat) : Int), .bool th], .int .i64 n] w fun e w' => (if fa + k = 0 ∧ th = false then e = .returned (.tuple #[.agg #[.slice none 0 0, .int .i64 0, .bool false], .bool false]) else
      ∃ u, e = .returned (.tuple #[.agg #[u, .int .i64 ((fa + k : Nat) : Int), .bool true], .bool true]) ∧ OwnB w.heap.size u (bs.take (fa + k)) w') ∧ Below w.heap.size w w' := by
  have hca := (byt_cap9 hb).2
  obtain ⟨s, hs⟩ : ∃ s, fa + k = s := ⟨_, rfl⟩
  have hs2 : ((fa : Nat) : Int) + ((k : Nat) : Int) = ((s : Nat) : Int) := by omega
  have hwk : IntKind.i64.wrap ((fa : Int) + (k : Int)) = ((s : Nat) : Int) := by rw [IntKind.wrap_i64]; omega
  rw [hs]
  rw [hs] at hkq
  have hsca : (s : Int) ≤ ca := by omega
  have htk := byt_take9 (j := s) (l := bs) (A := A) (c := ca) (w := w) (B := w.heap.size) (by rw [hq]; exact hb) (by omega)
  have hw1 := below_new w (.cells #[.slice A q ca, .int .i64 ((fa : Nat) : Int), .bool th] 90)
  have hbx1 := Blk.new w #[.slice A q ca, .int .i64 ((fa : Nat) : Int), .bool th] 90
  obtain ⟨W0, hW0⟩ : ∃ W0, w.alloc (.cells #[.slice A q ca, .int .i64 ((fa : Nat) : Int), .bool th] 90) = W0 := ⟨_, rfl⟩
  have hz0 : W0.heap.size = w.heap.size + 1 := by rw [← hW0]; simp
  rw [hW0] at hw1 hbx1
  have hw2 := below_new W0 (.cells #[.slice none 0 0, .int .i64 0, .bool false] 90)
  have hbx2 := hbx1.below hw2
  have hby2 := Blk.new W0 #[.slice none 0 0, .int .i64 0, .bool false] 90
  obtain ⟨W1, hW1⟩ : ∃ W1, W0.alloc (.cells #[.slice none 0 0, .int .i64 0, .bool false] 90) = W1 := ⟨_, rfl⟩
  have hz1 : W1.heap.size = W0.heap.size + 1 := by rw [← hW1]; simp
  rw [hW1] at hw2 hbx2 hby2
  rw [hz0] at hby2 hz1
  have hb01 : Below w.heap.size w W1 := hw1.trans (hw2.mono (by omega))
  have HB01 := Lib.hid hb01
  have HBX := Lib.hid hbx2
  have HBY := Lib.hid hby2
  have HZ0 := Lib.hid hz0
  have HZ1 := Lib.hid hz1
  have HTK := Lib.hid htk
  have HBS : Hid (bs.length = q) := Lib.hid hq
  have y0 := hbx2.cell (j := 0) rfl
  have y1 := hbx2.cell (j := 1) rfl
  have y2 := hbx2.cell (j := 2) rfl
  have v0 := hby2.cell (j := 0) rfl
  have v1 := hby2.cell (j := 1) rfl
  have v2 := hby2.cell (j := 2) rfl
  have f0 := hby2.frz 0
  have f1 := hby2.frz 1
  have f2 := hby2.frz 2
  clear hb01 hw1 hw2 hbx1 hbx2 hby2 htk hb hq
  subst hk
  have hsf : fa = s := by omega
  subst hsf
  clear hs2 hwk
  by_cases h0 : fa = 0 ∧ th = false
  · simp only [if_pos h0]
    obtain ⟨h0, rfl⟩ := h0
    subst h0
    replace hW0 : w.alloc (.cells #[.slice A q ca, .int .i64 0, .bool false] 90) = W0 := hW0
    replace y1 : W1.cell? ⟨w.heap.size, 1, none⟩ = some (.int .i64 0) := y1
    go_enter Tryd.func55, Tryd.ntmps55
    go_wp2
    refine bodyPost_ret (v := .tuple #[.agg #[.slice none 0 0, .int .i64 0, .bool false], .bool false]) (by simp [results, Tryd.results55, go_sem, v0, v1, v2]) rfl ⟨rfl, ?_⟩
    exact ((HB01.out.setCell (p := ⟨w.heap.size + 1, 0, none⟩) (Nat.le_succ _) _).setCell (p := ⟨w.heap.size + 1, 1, none⟩) (Nat.le_succ _) _).setCell (p := ⟨w.heap.size + 1, 2, none⟩) (Nat.le_succ _) _
  · simp only [if_neg h0]
    have hcs : (fa = 0 ∧ th = true) ∨ ¬ fa = 0 := by
      rcases Nat.eq_zero_or_pos fa with h | h
      · cases th
        · exact absurd ⟨h, rfl⟩ h0
        · exact .inl ⟨h, rfl⟩
      · exact .inr (by omega)
    clear h0
    rcases hcs with ⟨h0, rfl⟩ | h0
    · subst h0
      replace hW0 : w.alloc (.cells #[.slice A q ca, .int .i64 0, .bool true] 90) = W0 := hW0
      replace y1 : W1.cell? ⟨w.heap.size, 1, none⟩ = some (.int .i64 0) := y1
      go_enter Tryd.func55, Tryd.ntmps55
      go_wp2_with fail
      have hby := (HTK.out.below HB01.out (Nat.le_refl _)).more HB01.out.size
      refine (lasting9_any _ W1.heap.size (bs.take 0) W1 hby (Nat.le_refl _) (by rw [List.length_take]; omega)).mono ?_
      rintro e k2 ⟨u2, rfl, hu2, hk2⟩
      have hln : (bs.take 0).length = 0 := by rw [List.length_take, HBS.out]; omega
      rw [hln]
      obtain ⟨A2, c2, hu2v⟩ := own_slice hu2
      rw [hln] at hu2v
      subst hu2v
      have hbk := HBY.out.below hk2
      replace v0 := hbk.cell (j := 0) rfl
      replace v1 := hbk.cell (j := 1) rfl
      replace v2 := hbk.cell (j := 2) rfl
      replace f0 := hbk.frz 0
      replace f1 := hbk.frz 1
      replace f2 := hbk.frz 2
      have hlo : w.heap.size + 1 < W1.heap.size := HBY.out.lt
      have HU2 := Lib.hid (hu2.down (show w.heap.size + 2 ≤ _ by omega))
      have HB2 := Lib.hid (HB01.out.trans (hk2.mono HB01.out.size))
      clear hk2 hbk hu2 hby hln
      go_wp2
      refine bodyPost_ret (v := .tuple #[.agg #[.slice A2 0 c2, .int .i64 ((0 : Nat) : Int), .bool true], .bool true]) (by simp [results, Tryd.results55, go_sem, v0, v1, v2]) rfl ⟨⟨_, rfl, ?_⟩, ?_⟩
      · exact (ownsRow_down (ownsRow_set (p := ⟨w.heap.size + 1, 2, none⟩) (ownsRow_set (p := ⟨w.heap.size + 1, 1, none⟩) (ownsRow_set (p := ⟨w.heap.size + 1, 0, none⟩) HU2.out (Nat.lt_succ_self _)) (Nat.lt_succ_self _)) (Nat.lt_succ_self _)) (by omega) : OwnB w.heap.size _ (bs.take 0) _)
      · exact ((HB2.out.setCell (p := ⟨w.heap.size + 1, 0, none⟩) (Nat.le_succ _) _).setCell (p := ⟨w.heap.size + 1, 1, none⟩) (Nat.le_succ _) _).setCell (p := ⟨w.heap.size + 1, 2, none⟩) (Nat.le_succ _) _
    · have h0i : ¬ ((fa : Nat) : Int) = 0 := by omega
      have h0b : (((fa : Nat) : Int) == 0) = false := by simpa using h0
      go_enter Tryd.func55, Tryd.ntmps55
      go_wp2_with fail
      have hby := (HTK.out.below HB01.out (Nat.le_refl _)).more HB01.out.size
      refine (lasting9_any _ W1.heap.size (bs.take fa) W1 hby (Nat.le_refl _) (by rw [List.length_take]; omega)).mono ?_
      rintro e k2 ⟨u2, rfl, hu2, hk2⟩
      have hln : (bs.take fa).length = fa := by rw [List.length_take, HBS.out]; omega
      rw [hln]
      obtain ⟨A2, c2, hu2v⟩ := own_slice hu2
      rw [hln] at hu2v
      subst hu2v
      have hbk := HBY.out.below hk2
      replace v0 := hbk.cell (j := 0) rfl
      replace v1 := hbk.cell (j := 1) rfl
      replace v2 := hbk.cell (j := 2) rfl
      replace f0 := hbk.frz 0
      replace f1 := hbk.frz 1
      replace f2 := hbk.frz 2
      have hlo : w.heap.size + 1 < W1.heap.size := HBY.out.lt
      have HU2 := Lib.hid (hu2.down (show w.heap.size + 2 ≤ _ by omega))
      have HB2 := Lib.hid (HB01.out.trans (hk2.mono HB01.out.size))
      clear hk2 hbk hu2 hby hln
      go_wp2
      refine bodyPost_ret (v := .tuple #[.agg #[.slice A2 fa c2, .int .i64 ((fa : Nat) : Int), .bool true], .bool true]) (by simp [results, Tryd.results55, go_sem, v0, v1, v2]) rfl ⟨⟨_, rfl, ?_⟩, ?_⟩
      · exact (ownsRow_down (ownsRow_set (p := ⟨w.heap.size + 1, 2, none⟩) (ownsRow_set (p := ⟨w.heap.size + 1, 1, none⟩) (ownsRow_set (p := ⟨w.heap.size + 1, 0, none⟩) HU2.out (Nat.lt_succ_self _)) (Nat.lt_succ_self _)) (Nat.lt_succ_self _)) (by omega) : OwnB w.heap.size _ (bs.take fa) _)
      · exact ((HB2.out.setCell (p := ⟨w.heap.size + 1, 0, none⟩) (Nat.le_succ _) _).setCell (p := ⟨w.heap.size + 1, 1, none⟩) (Nat.le_succ _) _).setCell (p := ⟨w.heap.size + 1, 2, none⟩) (Nat.le_succ _) _
set_option maxHeartbeats 2000000 in
theorem fcrash9_pos (A : Option Addr) (q ca fa k : Nat) (th : Bool) (bs : List UInt8) (n : Int) (w : World) (hb : Byt w w.heap.size (.slice A q ca) bs) (hq : bs.length = q) (hfa : fa ≤ q) (hq2 : q ≤ 1048576) (hn : 0 < n) (hn2 : n < 9223372036854775808)
    (hk : n.tmod ((q : Int) - fa + 1) = (k : Nat)) (hkq : fa + k ≤ q) :
    Calls Tryd.prog 55 #[.agg #[.slice A q ca, .int .i64 ((fa : Nat) : Int), .bool th], .int .i64 n] w fun e w' => (if fa + k = 0 ∧ th = false then e = .returned (.tuple #[.agg #[.slice none 0 0, .int .i64 0, .bool false], .bool false]) else
      ∃ u, e = .returned (.tuple #[.agg #[u, .int .i64 ((fa + k : Nat) : Int), .bool true], .bool true]) ∧ OwnB w.heap.size u (bs.take (fa + k)) w') ∧ Below w.heap.size w w' := by
  have hca := (byt_cap9 hb).2
  obtain ⟨s, hs⟩ : ∃ s, fa + k = s := ⟨_, rfl⟩
  have hs2 : ((fa : Nat) : Int) + ((k : Nat) : Int) = ((s : Nat) : Int) := by omega
  have hwk : IntKind.i64.wrap ((fa : Int) + (k : Int)) = ((s : Nat) : Int) := by rw [IntKind.wrap_i64]; omega
  rw [hs]
  rw [hs] at hkq
  have hsca : (s : Int) ≤ ca := by omega
  have htk := byt_take9 (j := s) (l := bs) (A := A) (c := ca) (w := w) (B := w.heap.size) (by rw [hq]; exact hb) (by omega)
  have hw1 := below_new w (.cells #[.slice A q ca, .int .i64 ((fa : Nat) : Int), .bool th] 90)
  have hbx1 := Blk.new w #[.slice A q ca, .int .i64 ((fa : Nat) : Int), .bool th] 90
  obtain ⟨W0, hW0⟩ : ∃ W0, w.alloc (.cells #[.slice A q ca, .int .i64 ((fa : Nat) : Int), .bool th] 90) = W0 := ⟨_, rfl⟩
  have hz0 : W0.heap.size = w.heap.size + 1 := by rw [← hW0]; simp
  rw [hW0] at hw1 hbx1
  have hw2 := below_new W0 (.cells #[.slice none 0 0, .int .i64 0, .bool false] 90)
  have hbx2 := hbx1.below hw2
  have hby2 := Blk.new W0 #[.slice none 0 0, .int .i64 0, .bool false] 90
  obtain ⟨W1, hW1⟩ : ∃ W1, W0.alloc (.cells #[.slice none 0 0, .int .i64 0, .bool false] 90) = W1 := ⟨_, rfl⟩
  have hz1 : W1.heap.size = W0.heap.size + 1 := by rw [← hW1]; simp
  rw [hW1] at hw2 hbx2 hby2
  rw [hz0] at hby2 hz1
  have hb01 : Below w.heap.size w W1 := hw1.trans (hw2.mono (by omega))
  have HB01 := Lib.hid hb01
  have HBX := Lib.hid hbx2
  have HBY := Lib.hid hby2
  have HZ0 := Lib.hid hz0
  have HZ1 := Lib.hid hz1
  have HTK := Lib.hid htk
  have HBS : Hid (bs.length = q) := Lib.hid hq
  have y0 := hbx2.cell (j := 0) rfl
  have y1 := hbx2.cell (j := 1) rfl
  have y2 := hbx2.cell (j := 2) rfl
  have v0 := hby2.cell (j := 0) rfl
  have v1 := hby2.cell (j := 1) rfl
  have v2 := hby2.cell (j := 2) rfl
  have f0 := hby2.frz 0
  have f1 := hby2.frz 1
  have f2 := hby2.frz 2
  clear hb01 hw1 hw2 hbx1 hbx2 hby2 htk hb hq
  obtain ⟨x, hx⟩ : ∃ x : Int, (q : Int) - fa = x := ⟨_, rfl⟩
  have hlz := fun w => loose9_any A q ca (fa : Nat) th w hq2 ⟨by omega, by omega⟩
  rw [hx] at hlz hk
  have hxa : IntKind.i64.wrap (x + 1) = x + 1 := by rw [IntKind.wrap_i64]; omega
  obtain ⟨y, hy⟩ : ∃ y : Int, x + 1 = y := ⟨_, rfl⟩
  rw [hy] at hxa hk
  have hy0 : ¬ y = 0 := by omega
  have hy1 : (y == 0) = false := by simpa using hy0
  have hrm : IntKind.i64.wrap (n.tmod y) = (k : Nat) := by rw [hk, IntKind.wrap_i64]; omega
  clear hx
  by_cases h0 : s = 0 ∧ th = false
  · simp only [if_pos h0]
    obtain ⟨h0, rfl⟩ := h0
    subst h0
    go_enter Tryd.func55, Tryd.ntmps55
    go_wp2_with fail
    refine (hlz _).mono ?_
    rintro e k1 ⟨rfl, hk1⟩
    have HBX := Lib.hid (HBX.out.below hk1)
    have HBY := Lib.hid (HBY.out.below hk1)
    have HB01 := Lib.hid (HB01.out.trans (hk1.mono HB01.out.size))
    replace y0 := HBX.out.cell (j := 0) rfl
    replace y1 := HBX.out.cell (j := 1) rfl
    replace y2 := HBX.out.cell (j := 2) rfl
    replace v0 := HBY.out.cell (j := 0) rfl
    replace v1 := HBY.out.cell (j := 1) rfl
    replace v2 := HBY.out.cell (j := 2) rfl
    replace f0 := HBY.out.frz 0
    replace f1 := HBY.out.frz 1
    replace f2 := HBY.out.frz 2
    clear hk1 hlz
    go_wp2
    refine bodyPost_ret (v := .tuple #[.agg #[.slice none 0 0, .int .i64 0, .bool false], .bool false]) (by simp [results, Tryd.results55, go_sem, v0, v1, v2]) rfl ⟨rfl, ?_⟩
    exact ((HB01.out.setCell (p := ⟨w.heap.size + 1, 0, none⟩) (Nat.le_succ _) _).setCell (p := ⟨w.heap.size + 1, 1, none⟩) (Nat.le_succ _) _).setCell (p := ⟨w.heap.size + 1, 2, none⟩) (Nat.le_succ _) _
  · simp only [if_neg h0]
    have hcs : (s = 0 ∧ th = true) ∨ ¬ s = 0 := by
      rcases Nat.eq_zero_or_pos s with h | h
      · cases th
        · exact absurd ⟨h, rfl⟩ h0
        · exact .inl ⟨h, rfl⟩
      · exact .inr (by omega)
    clear h0
    rcases hcs with ⟨h0, rfl⟩ | h0
    · subst h0
      go_enter Tryd.func55, Tryd.ntmps55
      go_wp2_with fail
      refine (hlz _).mono ?_
      rintro e k1 ⟨rfl, hk1⟩
      have HBX := Lib.hid (HBX.out.below hk1)
      have HBY := Lib.hid (HBY.out.below hk1)
      have HB01 := Lib.hid (HB01.out.trans (hk1.mono HB01.out.size))
      replace y0 := HBX.out.cell (j := 0) rfl
      replace y1 := HBX.out.cell (j := 1) rfl
      replace y2 := HBX.out.cell (j := 2) rfl
      replace v0 := HBY.out.cell (j := 0) rfl
      replace v1 := HBY.out.cell (j := 1) rfl
      replace v2 := HBY.out.cell (j := 2) rfl
      replace f0 := HBY.out.frz 0
      replace f1 := HBY.out.frz 1
      replace f2 := HBY.out.frz 2
      clear hk1 hlz
      go_wp2_with fail
      have hby := (HTK.out.below HB01.out (Nat.le_refl _)).more HB01.out.size
      refine (lasting9_any _ k1.heap.size (bs.take 0) k1 hby (Nat.le_refl _) (by rw [List.length_take]; omega)).mono ?_
      rintro e k2 ⟨u2, rfl, hu2, hk2⟩
      have hln : (bs.take 0).length = 0 := by rw [List.length_take, HBS.out]; omega
      rw [hln]
      obtain ⟨A2, c2, hu2v⟩ := own_slice hu2
      rw [hln] at hu2v
      subst hu2v
      have hbk := HBY.out.below hk2
      replace v0 := hbk.cell (j := 0) rfl
      replace v1 := hbk.cell (j := 1) rfl
      replace v2 := hbk.cell (j := 2) rfl
      replace f0 := hbk.frz 0
      replace f1 := hbk.frz 1
      replace f2 := hbk.frz 2
      have hlo : w.heap.size + 1 < k1.heap.size := HBY.out.lt
      have HU2 := Lib.hid (hu2.down (show w.heap.size + 2 ≤ _ by omega))
      have HB2 := Lib.hid (HB01.out.trans (hk2.mono HB01.out.size))
      clear hk2 hbk hu2 hby hln
      go_wp2
      refine bodyPost_ret (v := .tuple #[.agg #[.slice A2 0 c2, .int .i64 ((0 : Nat) : Int), .bool true], .bool true]) (by simp [results, Tryd.results55, go_sem, v0, v1, v2]) rfl ⟨⟨_, rfl, ?_⟩, ?_⟩
      · exact (ownsRow_down (ownsRow_set (p := ⟨w.heap.size + 1, 2, none⟩) (ownsRow_set (p := ⟨w.heap.size + 1, 1, none⟩) (ownsRow_set (p := ⟨w.heap.size + 1, 0, none⟩) HU2.out (Nat.lt_succ_self _)) (Nat.lt_succ_self _)) (Nat.lt_succ_self _)) (by omega) : OwnB w.heap.size _ (bs.take 0) _)
      · exact ((HB2.out.setCell (p := ⟨w.heap.size + 1, 0, none⟩) (Nat.le_succ _) _).setCell (p := ⟨w.heap.size + 1, 1, none⟩) (Nat.le_succ _) _).setCell (p := ⟨w.heap.size + 1, 2, none⟩) (Nat.le_succ _) _
    · have h0i : ¬ ((s : Nat) : Int) = 0 := by omega
      have h0b : (((s : Nat) : Int) == 0) = false := by simpa using h0
      go_enter Tryd.func55, Tryd.ntmps55
      go_wp2_with fail
      refine (hlz _).mono ?_
      rintro e k1 ⟨rfl, hk1⟩
      have HBX := Lib.hid (HBX.out.below hk1)
      have HBY := Lib.hid (HBY.out.below hk1)
      have HB01 := Lib.hid (HB01.out.trans (hk1.mono HB01.out.size))
      replace y0 := HBX.out.cell (j := 0) rfl
      replace y1 := HBX.out.cell (j := 1) rfl
      replace y2 := HBX.out.cell (j := 2) rfl
      replace v0 := HBY.out.cell (j := 0) rfl
      replace v1 := HBY.out.cell (j := 1) rfl
      replace v2 := HBY.out.cell (j := 2) rfl
      replace f0 := HBY.out.frz 0
      replace f1 := HBY.out.frz 1
      replace f2 := HBY.out.frz 2
      clear hk1 hlz
      go_wp2_with fail
      have hby := (HTK.out.below HB01.out (Nat.le_refl _)).more HB01.out.size
      refine (lasting9_any _ k1.heap.size (bs.take s) k1 hby (Nat.le_refl _) (by rw [List.length_take]; omega)).mono ?_
      rintro e k2 ⟨u2, rfl, hu2, hk2⟩
      have hln : (bs.take s).length = s := by rw [List.length_take, HBS.out]; omega
      rw [hln]
      obtain ⟨A2, c2, hu2v⟩ := own_slice hu2
      rw [hln] at hu2v
      subst hu2v
      have hbk := HBY.out.below hk2
      replace v0 := hbk.cell (j := 0) rfl
      replace v1 := hbk.cell (j := 1) rfl
      replace v2 := hbk.cell (j := 2) rfl
      replace f0 := hbk.frz 0
      replace f1 := hbk.frz 1
      replace f2 := hbk.frz 2
      have hlo : w.heap.size + 1 < k1.heap.size := HBY.out.lt
      have HU2 := Lib.hid (hu2.down (show w.heap.size + 2 ≤ _ by omega))
      have HB2 := Lib.hid (HB01.out.trans (hk2.mono HB01.out.size))
      clear hk2 hbk hu2 hby hln
      go_wp2
      refine bodyPost_ret (v := .tuple #[.agg #[.slice A2 s c2, .int .i64 ((s : Nat) : Int), .bool true], .bool true]) (by simp [results, Tryd.results55, go_sem, v0, v1, v2]) rfl ⟨⟨_, rfl, ?_⟩, ?_⟩
      · exact (ownsRow_down (ownsRow_set (p := ⟨w.heap.size + 1, 2, none⟩) (ownsRow_set (p := ⟨w.heap.size + 1, 1, none⟩) (ownsRow_set (p := ⟨w.heap.size + 1, 0, none⟩) HU2.out (Nat.lt_succ_self _)) (Nat.lt_succ_self _)) (Nat.lt_succ_self _)) (by omega) : OwnB w.heap.size _ (bs.take s) _)
      · exact ((HB2.out.setCell (p := ⟨w.heap.size + 1, 0, none⟩) (Nat.le_succ _) _).setCell (p := ⟨w.heap.size + 1, 1, none⟩) (Nat.le_succ _) _).setCell (p := ⟨w.heap.size + 1, 2, none⟩) (Nat.le_succ _) _
theorem fcrash9_any (A : Option Addr) (q ca fa k : Nat) (th : Bool) (bs : List UInt8) (n : Int) (w : World) (hb : Byt w w.heap.size (.slice A q ca) bs) (hq : bs.length = q) (hfa : fa ≤ q) (hq2 : q ≤ 1048576) (hn2 : n < 9223372036854775808)
    (hkp : 0 < n → n.tmod ((q : Int) - fa + 1) = (k : Nat)) (hkn : ¬ 0 < n → k = 0) (hkq : fa + k ≤ q) :
    Calls Tryd.prog 55 #[.agg #[.slice A q ca, .int .i64 ((fa : Nat) : Int), .bool th], .int .i64 n] w fun e w' => (if fa + k = 0 ∧ th = false then e = .returned (.tuple #[.agg #[.slice none 0 0, .int .i64 0, .bool false], .bool false]) else
      ∃ u, e = .returned (.tuple #[.agg #[u, .int .i64 ((fa + k : Nat) : Int), .bool true], .bool true]) ∧ OwnB w.heap.size u (bs.take (fa + k)) w') ∧ Below w.heap.size w w' := by
  by_cases hn : 0 < n
  · exact fcrash9_pos A q ca fa k th bs n w hb hq hfa hq2 hn hn2 (hkp hn) hkq
  · exact fcrash9_neg A q ca fa k th bs n w hb hq hfa hq2 hn hn2 (hkn hn) hkq
theorem ranges_off9 {S : Nat → Prop} {w w' : World} {b r n cnt : Nat} {D : DataW Value} {left : Lit → Bool} {P : Program} {k : TypeId} {R : Value → Option (DataW Value × List MemPlace)} (h : w.ranges P k R b r n D left cnt) (ho : Off S w w') (hb : ¬ S b) (hr : ¬ S r) : w'.ranges P k R b r n D left cnt := by
  have h1 := h.owns.lt
  have h2 := h.lt
  obtain ⟨es, clock, since, seen, c0, hb2, F, hs, hD, hr2, rest⟩ := h
  exact ⟨es, clock, since, seen, c0, (ho.block b h1 hb).trans hb2, F, hs, hD, (ho.block r h2 hr).trans hr2, rest⟩
set_option maxHeartbeats 2000000 in
theorem crash9_none (S : Nat → Prop) (g : Nat) (c : Nat) (n : Int) (w : World) (hb : Box9 w g none c) :
    Calls Tryd.prog 24 #[.pointer (some ⟨g, 0, none⟩), .int .i64 n] w fun e w' => e = .returned (.pointer (some ⟨w.heap.size, 0, none⟩)) ∧ PD w' (fun k => w.heap.size ≤ k ∧ k < w'.heap.size) w.heap.size [] 0 ∧ Below w.heap.size w w' := by
  have hb1 := below_new w (.cells #[.map none, .int .i64 0] 73)
  have hB := hb.below hb1
  have hP := PD.new w
  obtain ⟨W1, hW1⟩ : ∃ W1, w.alloc (.cells #[.map none, .int .i64 0] 73) = W1 := ⟨_, rfl⟩
  have hz1 : W1.heap.size = w.heap.size + 1 := by rw [← hW1]; simp
  rw [hW1] at hb1 hB hP
  have hc0 := hB.cell0
  have hrg := run_range_nilMap (P := Tryd.prog) W1 71 9 90 Tryd.underlying71
  have hnx : ∀ ty, (Instr.next (.pointer (some ⟨W1.heap.size, 0, none⟩)) false ty).run Tryd.prog (W1.alloc (.mapIter none 0 #[] 0)) = _ := fun ty => run_next_nilMap _ ty 0 0 #[]
  have HB1 := Lib.hid hb1
  have HP := Lib.hid hP
  have HZ1 := Lib.hid hz1
  clear hb1 hP hB hb hz1
  go_enter Tryd.func24, Tryd.ntmps24
  go_wp2_with fail
  refine (new9_any w).mono ?_
  rintro e k ⟨rfl, rfl⟩
  rw [hW1]
  go_wp2
  refine wp_loop_rounds 1 ?_
  rw [rounds_succ]
  go_wp2
  go_ret
  refine ⟨rfl, ?_, HB1.out.trans ((below_new W1 _).mono (by rw [HZ1.out]; exact Nat.le_succ _))⟩
  refine (HP.out.below (below_new W1 _)).more (fun k hk => ?_) (fun k hk => hk.2)
  subst hk
  have := HZ1.out
  exact ⟨Nat.le_refl _, by simp; omega⟩
set_option maxHeartbeats 4000000 in
theorem crash9_some (S : Nat → Prop) (g b c : Nat) (l : List Fil) (ps : List (Fil × Value)) (n : Int) (w : World) (hl : ps.map (·.1) = l) (hb : Box9 w g (some b) c) (hm : Map9 w (some b) ps) (h6 : ∀ p ∈ ps, OwnB 0 p.2 p.1.b w) (hs : Sorted9 l) (hgd : ∀ f ∈ l, Good9 f) (hlen : l.length ≤ 100000)
    (hn : -9223372036854775808 ≤ n ∧ n < 9223372036854775808) :
    Calls Tryd.prog 24 #[.pointer (some ⟨g, 0, none⟩), .int .i64 n] w fun e w' => e = .returned (.pointer (some ⟨w.heap.size, 0, none⟩)) ∧ PD w' (fun k => w.heap.size ≤ k ∧ k < w'.heap.size) w.heap.size (crash9 n l) 0 ∧ Below w.heap.size w w' := by
  have hb1 := below_new w (.cells #[.map none, .int .i64 0] 73)
  have hB := hb.below hb1
  have hM := hm.below hb1
  have hP := PD.new w
  obtain ⟨W1, hW1⟩ : ∃ W1, w.alloc (.cells #[.map none, .int .i64 0] 73) = W1 := ⟨_, rfl⟩
  have hz1 : W1.heap.size = w.heap.size + 1 := by rw [← hW1]; simp
  rw [hW1] at hb1 hB hM hP
  have hc0 := hB.cell0
  have hown : W1.ownsMap Tryd.prog 9 RH b ps.length (DD ps) := hM
  have hblt : b < w.heap.size := World.ownsMap.lt (show w.ownsMap Tryd.prog 9 RH b ps.length (DD ps) from hm)
  have H6 := Lib.hid h6
  have HS := Lib.hid hs
  have HGD := Lib.hid hgd
  have HL := Lib.hid hl
  have HB1 := Lib.hid hb1
  have HP := Lib.hid hP
  have HZ1 := Lib.hid hz1
  have HLEN := Lib.hid hlen
  clear h6 hs hgd hl hb1 hP hB hb hM hm hlen hz1
  go_enter Tryd.func24, Tryd.ntmps24
  go_wp2_with fail
  refine (new9_any w).mono ?_
  rintro e k ⟨rfl, rfl⟩
  rw [hW1]
  go_wp2_with (first
    | (at_range; refine wpList_range_own _ rfl _ 71 rfl 9 90 Tryd.lawStr9 Tryd.underlying71 _ b ps.length _ rfl hown ?_; intro w0 hrg0 hg0 hs0)
    | go_in)
  go_frame
  have hz1 := HZ1.out
  rw [hz1] at hrg0 hs0 ⊢
  have hbel0 : Below W1.heap.size W1 w0 := (Below.refl _ _).grown hg0 (Nat.le_refl _) (fun j hj => by cases hj)
  clear hown hz1
  go_loopw [9] (fun _ wr => ∃ (left : Lit → Bool) (cnt : Nat), wr.ranges Tryd.prog 9 RH b (w.heap.size + 1) ps.length (DD ps) left cnt ∧
      PD wr (fun k => w.heap.size ≤ k ∧ k ≠ w.heap.size + 1 ∧ k < wr.heap.size) w.heap.size (crash9 n (seen9 left l)) 0 ∧ Below w.heap.size w wr)
    (fun _ wr => wr.rangeLeft b (w.heap.size + 1))
  case atStart =>
    refine ⟨_, _, hrg0, ?_, HB1.out.trans (hbel0.mono (by rw [HZ1.out]; exact Nat.le_succ _))⟩
    rw [← HL.out, seen9_start]
    refine (HP.out.below hbel0).more (fun k hk => ?_) (fun k hk => hk.2.2)
    subst hk
    exact ⟨Nat.le_refl _, by omega, by omega⟩
  case round =>
    obtain ⟨left, cnt, hrg, hpd, hbw⟩ := hrel
    have HPD := Lib.hid hpd
    have HBW := Lib.hid hbw
    clear hpd hbw
    go_wp2_with (first
      | (at_next; refine wpList_next_ranges _ rfl _ rfl 9 Tryd.lawStr9 RH Go.Proofs.encStr (fun v : Value => v) (fun key kl hk => by obtain ⟨x, hx, _⟩ := Maps.keyOf_str Tryd.underlying9 hk; exact ⟨x, hx⟩) (fun v y hv => ⟨v, rfl⟩) b (w.heap.size + 1) ps.length _ _ _ rfl hrg ?_ ?_)
      | go_in)
    · intro hc0' hl0
      go_wp2
      go_ret
      refine ⟨rfl, ?_, HBW.out⟩
      have h1 := HPD.out
      rw [seen9_end l hl0] at h1
      exact h1.more (fun k hk => ⟨hk.1, hk.2.2⟩) (fun k hk => hk.2)
    · intro x v kl yd yp w1 cnt1 hkey hlk hv hat hrg1 hlt hg1 hs1 hen
      obtain ⟨x', ex, rfl, _⟩ := Maps.keyOf_str Tryd.underlying9 hkey
      obtain rfl : x = x' := encStr_inj ex
      obtain ⟨nm, hnm⟩ : ∃ nm : ByteArray, (⟨x.toArray⟩ : ByteArray) = nm := ⟨_, rfl⟩
      have hnx : nm.data.toList = x := by rw [← hnm]
      have hyd : yd = .held v := by
        have h1 : RH v = some (yd, yp) := hv
        injection h1 with h1; injection h1 with h1 _; exact h1.symm
      subst hyd
      rw [← hnx] at hat hlk hrg1
      obtain ⟨p, hp, hpn, rfl⟩ := at_find9 hat
      have hpl : p.1 ∈ l := by rw [← HL.out]; exact List.mem_map_of_mem hp
      obtain ⟨g1, g2, g3, g4⟩ := HGD.out p.1 hpl
      obtain ⟨A, ca, hpv⟩ := own_slice (H6.out p hp)
      have hob := H6.out p hp
      rw [hpv] at hob
      obtain ⟨bs, hbs⟩ : ∃ bs, p.1.b = bs := ⟨_, rfl⟩
      obtain ⟨q, hq⟩ : ∃ q, bs.length = q := ⟨_, rfl⟩
      obtain ⟨fa, hfa⟩ : ∃ fa, p.1.fast = fa := ⟨_, rfl⟩
      obtain ⟨th, hth⟩ : ∃ th, p.1.there = th := ⟨_, rfl⟩
      have hst := seen9_step (n := n) HS.out hpl left (by rw [hpn]; exact hlk)
      rw [hpn] at hst
      have hkle := kOf9_le (n := n) g2
      have hkp := fun h => kOf9_pos (n := n) h g2
      have hkn := kOf9_neg (n := n) (f := p.1)
      obtain ⟨kk, hkk⟩ : ∃ kk, kOf9 n p.1 = kk := ⟨_, rfl⟩
      have hlf : left9 n p.1 = if th = true ∨ 0 < kk then [⟨nm, bs.take (fa + kk), fa + kk, true⟩] else [] := by
        unfold left9; rw [hth, hkk, hpn, hbs, hfa]
      rw [hlf] at hst
      rw [hbs] at g2 g3 hob hkle hkp
      rw [hq] at g2 g3 hob hkle hkp
      rw [hfa] at g2 hkle hkp
      rw [hkk] at hkle hkp hkn
      rw [hfa, hth] at g4
      have hfv : fileV p = .agg #[.slice A q ca, .int .i64 ((fa : Nat) : Int), .bool th] := by unfold fileV; rw [hpv, hbs, hq, hfa, hth]
      rw [hfv] at hen ⊢
      have hnz := (goodN_size g1).2
      rw [hpn] at hnz
      have hgn1 : goodN nm = true := by rw [← hpn]; exact g1
      have hpd1 : PD w1 (fun k => w.heap.size ≤ k ∧ k ≠ w.heap.size + 1 ∧ k < wr.heap.size) w.heap.size (crash9 n (seen9 left l)) 0 := HPD.out.off (T := fun k => k = w.heap.size + 1) ((Off.refl _ _).grown hg1 (fun k hk => .inl (Option.some.inj hk).symm)) (fun k hk e => hk.2.1 e)
      have hbw1 : Below w.heap.size w w1 := HBW.out.grown hg1 HBW.out.size (fun j hj => by cases hj; exact Nat.le_succ _)
      have hbx : w1.heap.size = wr.heap.size := hs1
      have hrl := hrg.left_eq
      have hrlt := hrg1.lt
      have HRL := Lib.hid hrl
      have HRG1 := Lib.hid hrg1
      have HPD1 := Lib.hid hpd1
      have HBW1 := Lib.hid hbw1
      have HSZ := Lib.hid hbx
      have HST := Lib.hid hst
      have HOB := Lib.hid hob
      have HBS : Hid (bs.length = q) := Lib.hid hq
      have hwz := HBW.out.size
      have hnm2 : (Go.Proofs.encStr x : Value) = .string nm := by rw [← hnm]
      rw [hnm2] at hen ⊢
      clear hnm2 hnm hnx hrg hrg1 hpd1 hbw1 hbx hst hob hq hbs hfa hth hkk hlf hpv hfv hg1 hs1 hv hat hlk hkey ex g1 hpn hp hpl HPD hrl
      go_wp2_with fail
      have hal := below_new w1 (.cells #[.slice A q ca, .int .i64 ((fa : Nat) : Int), .bool th] 90)
      refine (fcrash9_any A q ca fa kk th bs n _ (((Byt.of_own HOB.out).below (HBW1.out.trans (hal.mono HBW1.out.size)) (Nat.le_refl _)).more (Nat.le_trans HBW1.out.size hal.size)) HBS.out g2 g3 hn.2 hkp (fun h => hkn (by omega)) hkle).mono ?_
      rintro e k2 ⟨hre, hk2⟩
      have hb12 : Below w1.heap.size w1 k2 := hal.trans (hk2.mono hal.size)
      have HB12 := Lib.hid hb12
      clear hal hkp hkn
      by_cases h0 : fa + kk = 0 ∧ th = false
      · rw [if_pos h0] at hre
        subst hre
        have hno : ¬ (th = true ∨ 0 < kk) := by
          rintro (h | h)
          · rw [h] at h0; cases h0.2
          · omega
        have hst := HST.out.1 (if_neg hno)
        have HST1 := Lib.hid hst
        clear hk2 hb12 hst h0 hno
        go_wp2
        go_roundw
        case rel =>
          have hb13 := HB12.out.alloc (o := .cells #[.slice none 0 0, .int .i64 0, .bool false] 90) HB12.out.size
          refine ⟨_, cnt1, ranges_off9 HRG1.out (Off.of_below (S := fun _ => False) hb13) (fun h => h) (fun h => h), ?_, HBW1.out.trans (hb13.mono HBW1.out.size)⟩
          rw [HST1.out]
          exact (HPD1.out.below hb13).more (fun k hk => ⟨hk.1, hk.2.1, by have := hb13.size; have := HSZ.out; omega⟩) (fun k hk => hk.2.2)
        case measure =>
          have hb13 := HB12.out.alloc (o := .cells #[.slice none 0 0, .int .i64 0, .bool false] 90) HB12.out.size
          rw [(ranges_off9 HRG1.out (Off.of_below (S := fun _ => False) hb13) (fun h => h) (fun h => h)).left_eq, HRL.out]
          exact hlt
      · rw [if_neg h0] at hre
        obtain ⟨u2, rfl, hu2⟩ := hre
        have hye : th = true ∨ 0 < kk := by
          cases th with
          | true => exact .inl rfl
          | false =>
            have h1 := g4 rfl
            refine .inr ?_
            rcases Nat.eq_zero_or_pos kk with h2 | h2
            · exact absurd ⟨by omega, rfl⟩ h0
            · exact h2
        have hst := HST.out.2 _ (if_pos hye)
        have HST1 := Lib.hid hst
        obtain ⟨sz, hsz⟩ : ∃ sz, fa + kk = sz := ⟨_, rfl⟩
        rw [hsz] at HST1 hu2 hkle
        rw [hsz]
        have hln : (bs.take sz).length = sz := by rw [List.length_take, HBS.out]; omega
        obtain ⟨A2, c2, hu2v⟩ := own_slice hu2
        rw [hln] at hu2v
        subst hu2v
        have HU2 := Lib.hid (hu2.down (show w1.heap.size ≤ _ by simp))
        have HLN := Lib.hid hln
        have HGF : Hid (Good9 ⟨nm, bs.take sz, sz, true⟩) := Lib.hid ⟨hgn1, by rw [hln]; exact Nat.le_refl _, by rw [hln]; omega, fun h => by cases h⟩
        obtain ⟨m2, ps2, e1, e2, e3, e4, e5, e6, e7, e8, e9, e10⟩ := HPD1.out
        have hpl2 : ps2.length ≤ 100000 := by
          have h1 := crash9_len n (seen9 left l)
          have h2 : (seen9 left l).length ≤ l.length := List.length_filter_le _ _
          have h3 : ps2.length = (crash9 n (seen9 left l)).length := by rw [← e1, List.length_map]
          have h4 := HLEN.out
          omega
        have E1 := Lib.hid e1
        have E2 := Lib.hid e2
        have E3 := Lib.hid e3
        have E4 := Lib.hid e4
        have E5 := Lib.hid e5
        have E6 := Lib.hid e6
        have E7 := Lib.hid e7
        have E8 := Lib.hid e8
        have E9 := Lib.hid e9
        have E10 := Lib.hid e10
        clear hk2 hb12 hst h0 hye hsz hln hu2 e1 e2 e3 e4 e5 e6 e7 e8 e9 e10 hgn1
        go_wp2_with fail
        refine (put9_from ⟨nm, bs.take sz, sz, true⟩ A2 sz c2 E3.out E5.out (HB12.out.alloc HB12.out.size _) (sorted_ps E1.out E8.out) hpl2 hnz).mono ?_
        rintro e k3 ⟨rfl, hbW, hbx, hmx, b2, hbk, hmk, hor, hok⟩
        have hfin := PD.done (S := fun k => w.heap.size ≤ k ∧ k ≠ w.heap.size + 1 ∧ k < wr.heap.size) (w := w1) (f := ⟨nm, bs.take sz, sz, true⟩) (u := .slice A2 sz c2) E1.out E2.out E4.out (fun p hp => (E6.out p hp).2) E7.out E8.out E9.out E10.out (Off.of_below hbW) hbx hmx (fun p hp _ => (E6.out p hp).1.below hbW)
          (((HU2.out.below (below_new k2 _)).down (Nat.zero_le _))) (fun j hj => .inr ⟨(HU2.out.lt j hj).1, by have h1 := (HU2.out.lt j hj).2; simp; omega⟩)
          (fun p hp _ j hj e => by
            have h1 := E10.out j ((E6.out p hp).2 j e)
            have h2 := (HU2.out.lt j hj).1
            omega) HGF.out hbk hmk hor hok
        have HFIN := Lib.hid hfin
        clear hfin hbW hbx hmx hbk hmk hor hok
        go_wp2
        go_roundw
        case rel =>
          have h1 := HFIN.out.2.size
          have h2 := HSZ.out
          refine ⟨_, cnt1, ranges_off9 HRG1.out HFIN.out.2 (fun h => by have := h.1; omega) (fun h => h.2.1 rfl), ?_, HBW1.out.trans (HFIN.out.2.below (fun k hk => hk.1) HBW1.out.size)⟩
          rw [HST1.out]
          refine HFIN.out.1.more (fun k hk => ?_) (fun k hk => hk.2.2)
          rcases hk with hk | hk
          · exact ⟨hk.1, hk.2.1, by omega⟩
          · exact ⟨by omega, by omega, hk.2⟩
        case measure =>
          rw [(ranges_off9 HRG1.out HFIN.out.2 (fun h => by have := h.1; omega) (fun h => h.2.1 rfl)).left_eq, HRL.out]
          exact hlt
theorem crash9_disk (S : Nat → Prop) (g : Nat) (l : List Fil) (c : Nat) (n : Int) (w : World) (h : PD w S g l c) (hlen : l.length ≤ 100000) (hn : -9223372036854775808 ≤ n ∧ n < 9223372036854775808) :
    Calls Tryd.prog 24 #[.pointer (some ⟨g, 0, none⟩), .int .i64 n] w fun e w' => e = .returned (.pointer (some ⟨w.heap.size, 0, none⟩)) ∧ PD w' (fun k => w.heap.size ≤ k ∧ k < w'.heap.size) w.heap.size (crash9 n l) 0 ∧ Below w.heap.size w w' := by
  obtain ⟨m, ps, h1, h2, h3, h4, h5, h6, h7, h8, h9, h10⟩ := h
  cases m with
  | none =>
    have h5 : ps = [] := h5
    subst h5
    have h1 : l = [] := h1.symm
    subst h1
    exact crash9_none S g c n w h3
  | some b => exact crash9_some S g b c l ps n w h1 h3 h5 (fun p hp => (h6 p hp).1) h8 h9 hlen hn
end Go.Proofs.YtmoaacaopphgbaaDoor
/-
  A keep and a disk as the laws hold them: none of their blocks is one of those that must stand.
  There are no conditions beyond those that each lemma names.
-/
set_option linter.unusedSimpArgs false
set_option linter.unusedVariables false
namespace Go.Proofs.YtmoaacaopphgbaaDoor
open Go.RowKit Go.Deep
set_option maxRecDepth 100000

/-- blocks of which N holds stand -/
def Std (N : Nat → Prop) (w w' : World) : Prop := Off (fun j => ¬ N j) w w'
theorem Std.size {N : Nat → Prop} {w w' : World} (h : Std N w w') : w.heap.size ≤ w'.heap.size := Off.size h
theorem Std.cell {N : Nat → Prop} {w w' : World} (h : Std N w w') {p : Addr} (hN : N p.block) (hl : p.block < w.heap.size) : w'.cell? p = w.cell? p := Off.cell h hl fun e => e hN
theorem Std.block {N : Nat → Prop} {w w' : World} (h : Std N w w') {j : Nat} (hN : N j) (hl : j < w.heap.size) : w'.heap[j]? = w.heap[j]? := Off.block h j hl fun e => e hN
theorem Std.rt {N : Nat → Prop} {w w' : World} {g : Nat} {t : TypeId} {cs : List Value} (h : Std N w w') (hx : Rt w g t cs) (hN : N g) : Rt w' g t cs := (h.block hN hx.lt).trans hx
theorem Std.refl (N : Nat → Prop) (w : World) : Std N w w := Off.refl _ _
theorem Std.of_below {N : Nat → Prop} {w w' : World} (h : Below w.heap.size w w') : Std N w w' := Off.of_below h
theorem Std.trans {N : Nat → Prop} {a b c : World} (h : Std N a b) (k : Std N b c) : Std N a c := Off.trans h k fun _ hj => .inl hj
theorem Std.less {N M : Nat → Prop} {a b : World} (h : Std N a b) (hM : ∀ j, M j → N j) : Std M a b := Off.mono h fun j hj => .inl fun e => hj (hM j e)
theorem Std.tbl {N : Nat → Prop} {w w' : World} (h : Std N w w') (hT : Tbl w) (hN : N 0) : Tbl w' := fun k hk => (h.cell (p := ⟨0, k, none⟩) hN (cell_lt (hT k hk))).trans (hT k hk)
theorem Std.below {N : Nat → Prop} {w w' : World} {B : Nat} (h : Std N w w') (hB : B ≤ w.heap.size) (hN : ∀ j, j < B → N j) : Below B w w' := Off.below h (fun j hj => by
  rcases Nat.lt_or_ge j B with h1 | h1
  · exact absurd (hN j h1) hj
  · exact h1) hB
theorem Std.ens {N : Nat → Prop} {w w' : World} {v : Value} {L : List Ent} (h : Std N w w') (hE : Ens N w v L) : Ens N w' v L := hE.keep fun _ hp hl => h.cell hp hl
/-- a keep none of whose blocks is one of N -/
def KK (N : Nat → Prop) (w : World) (g d : Nat) (k : Kst) (x : Fk) (c : Nat) : Prop := (∃ S, KB w S g d k x c ∧ ∀ j, S j → ¬ N j) ∧ (∀ j, N j → j < w.heap.size) ∧ N 0 ∧ Tbl w
/-- a disk none of whose blocks is one of N -/
def KD (N : Nat → Prop) (w : World) (d : Nat) (x : Fk) (c : Nat) : Prop := (∃ T, PD w T d (files11 x) c ∧ ∀ j, T j → ¬ N j) ∧ (∀ j, N j → j < w.heap.size) ∧ N 0 ∧ Tbl w
theorem KK.ok {N : Nat → Prop} {w : World} {g d c : Nat} {k : Kst} {x : Fk} (h : KK N w g d k x c) : KOk k := by
  obtain ⟨⟨S, h1, _⟩, _⟩ := h; exact h1.ok
/-- others made new blocks: these stand as well -/
theorem KK.others {N : Nat → Prop} {w w' : World} {g d c : Nat} {k : Kst} {x : Fk} (h : KK N w g d k x c) (hb : Below w.heap.size w w') : KK (fun j => N j ∨ (w.heap.size ≤ j ∧ j < w'.heap.size)) w' g d k x c := by
  obtain ⟨⟨S, h1, h2⟩, h3, h4, h5⟩ := h
  refine ⟨⟨S, h1.below hb, fun j hj hn => ?_⟩, fun j hj => ?_, .inl h4, tbl_keep h5 hb⟩
  · rcases hn with hn | hn
    · exact h2 j hj hn
    · have := h1.lt j hj; omega
  · rcases hj with hj | hj
    · exact Nat.lt_of_lt_of_le (h3 j hj) hb.size
    · exact hj.2
/-- what is written into a block of N leaves a keep alone -/
theorem KK.set {N : Nat → Prop} {w : World} {g d c : Nat} {k : Kst} {x : Fk} (h : KK N w g d k x c) {p : Addr} (u : Value) (hp : N p.block) (hs : p.block ≠ 0) (hsp : p.spot = none) : KK N (w.setCell p u) g d k x c := by
  obtain ⟨⟨S, h1, h2⟩, h3, h4, h5⟩ := h
  obtain ⟨pb, po, ps⟩ := p
  simp only at hsp hp hs
  subst hsp
  have ho : Off (fun j => j = pb) w (w.setCell ⟨pb, po, none⟩ u) := (Off.refl _ w).set (.inl rfl)
  exact ⟨⟨S, h1.off ho (fun j hj e => by subst e; exact h2 _ hj hp), h2⟩, fun j hj => Nat.lt_of_lt_of_le (h3 j hj) ho.size, h4, fun i hi => (ho.cell (p := ⟨0, i, none⟩) (cell_lt (h5 i hi)) (fun e => hs e.symm)).trans (h5 i hi)⟩
theorem KK.less {N M : Nat → Prop} {w : World} {g d c : Nat} {k : Kst} {x : Fk} (h : KK N w g d k x c) (hM : ∀ j, M j → N j) (hs : M 0) : KK M w g d k x c := by
  obtain ⟨⟨S, h1, h2⟩, h3, h4, h5⟩ := h
  exact ⟨⟨S, h1, fun j hj hm => h2 j hj (hM j hm)⟩, fun j hj => h3 j (hM j hj), hs, h5⟩
theorem KK.drew {N : Nat → Prop} {w : World} {g d c : Nat} {k : Kst} {x : Fk} (h : KK N w g d k x c) : KK N w.drew g d k x c := by
  obtain ⟨⟨S, h1, h2⟩, h3, h4, h5⟩ := h
  exact ⟨⟨S, h1.below ((Below.refl _ _).drew), h2⟩, h3, h4, h5⟩
/-- a step of a keep as the laws hold it -/
def Kt (N : Nat → Prop) (g d : Nat) (k : Kst) (x : Fk) (c : Nat) (r : Int) (w : World) (e : Ending) (w' : World) : Prop := e = .returned (.int .i64 r) ∧ KK N w' g d k x c ∧ Std N w w'
theorem Kd.kt {N S : Nat → Prop} {g d c : Nat} {k : Kst} {x : Fk} {r : Int} {w w' : World} {e : Ending} (h : Kd S g d k x c r w e w') (h2 : ∀ j, S j → ¬ N j) (h3 : ∀ j, N j → j < w.heap.size) (h4 : N 0) (h5 : Tbl w) : Kt N g d k x c r w e w' := by
  obtain ⟨a, b, o⟩ := h
  have hs : Std N w w' := o.mono fun j hj => .inl fun e => h2 j hj e
  refine ⟨a, ⟨⟨_, b, fun j hj hn => ?_⟩, fun j hj => Nat.lt_of_lt_of_le (h3 j hj) o.size, h4, hs.tbl h5 h4⟩, hs⟩
  rcases hj with hj | hj
  · exact h2 j hj hn
  · have := h3 j hn; omega
theorem hard_kk {N : Nat → Prop} {g d c : Nat} {k : Kst} {x : Fk} {w : World} (h : KK N w g d k x c) (hc : c ≤ 900000) (t v : Int) (r : Int) (k' : Kst) (hr : hard11 k t v = (r, k')) :
    Calls Tryd.prog 16 #[.pointer (some ⟨g, 0, none⟩), .agg #[.int .i64 t, .int .i64 v]] w (Kt N g d k' (hardF k x t v) (c + 2) r w) := by
  obtain ⟨⟨S, h1, h2⟩, h3, h4, h5⟩ := h
  refine (khard_any S g d c k x t v w h1 hc h5 (fun e => h2 _ e h4)).mono ?_
  intro e w' hk
  rw [hr] at hk
  exact hk.kt h2 h3 h4 h5
theorem write_kk {N : Nat → Prop} {g d c : Nat} {k : Kst} {x : Fk} {w : World} (h : KK N w g d k x c) (hc : c ≤ 900000) (A : Option Addr) (n q : Nat) (l : List Ent) (hE : Ens N w (.slice A n q) l) (hl : l.length ≤ 80) (hd : ∀ e ∈ l, e.data.size ≤ 1050000) (hib : ∀ e ∈ l, -9223372036854775808 ≤ e.ix ∧ e.ix ≤ 9223372036854775807) (r : Int) (k' : Kst) (hr : write11 k l = (r, k')) :
    Calls Tryd.prog 15 #[.pointer (some ⟨g, 0, none⟩), .slice A n q] w (Kt N g d k' (writeF k x l) (c + 2) r w) := by
  obtain ⟨⟨S, h1, h2⟩, h3, h4, h5⟩ := h
  refine (kwrite_any S g d c k x A n q l w h1 hc (hE.mono fun j hj _ e => h2 j e hj) hl hd hib h5 (fun e => h2 _ e h4)).mono ?_
  intro e w' hk
  rw [hr] at hk
  exact hk.kt h2 h3 h4 h5
theorem sync_kk {N : Nat → Prop} {g d c : Nat} {k : Kst} {x : Fk} {w : World} (h : KK N w g d k x c) (hc : c ≤ 900000) :
    Calls Tryd.prog 22 #[.pointer (some ⟨g, 0, none⟩)] w (Kt N g d k (some (sync11 k x)) (c + 2) 0 w) := by
  obtain ⟨⟨S, h1, h2⟩, h3, h4, h5⟩ := h
  refine (ksync_any S g d c k x w h1 hc h5 (fun e => h2 _ e h4)).mono ?_
  intro e w' hk
  exact hk.kt h2 h3 h4 h5
theorem snap_kk {N : Nat → Prop} {g d c : Nat} {k : Kst} {x : Fk} {w : World} (h : KK N w g d k x c) (hc : c ≤ 900000) (ix st : Int) (cf dt : ByteArray) (hcs : cf.size ≤ 1050000) (hds : dt.size ≤ 1050000) (r : Int) (k' : Kst) (hr : snap11 k ⟨ix, st, cf, dt⟩ = (r, k')) :
    Calls Tryd.prog 23 #[.pointer (some ⟨g, 0, none⟩), .agg #[.int .i64 ix, .int .i64 st, .string cf, .string dt]] w (Kt N g d k' (snapF k x ⟨ix, st, cf, dt⟩) (c + 2) r w) := by
  obtain ⟨⟨S, h1, h2⟩, h3, h4, h5⟩ := h
  refine (ksnap_any S g d c k x ix st cf dt w h1 hc h5 (fun e => h2 _ e h4) hcs hds).mono ?_
  intro e w' hk
  rw [hr] at hk
  exact hk.kt h2 h3 h4 h5
theorem state_kk {N : Nat → Prop} {g d c : Nat} {k : Kst} {x : Fk} {w : World} (h : KK N w g d k x c) :
    Calls Tryd.prog 21 #[.pointer (some ⟨g, 0, none⟩)] w fun e w' => ∃ v, e = .returned (.agg #[.int .i64 k.ht, .int .i64 k.hv, .int .i64 k.s.ix, .int .i64 k.s.st, .string k.s.conf, .string k.s.data, v]) ∧ OwnEn w.heap.size v k.log w' ∧ Below w.heap.size w w' := by
  obtain ⟨⟨S, h1, h2⟩, _⟩ := h
  exact kstate_any S g d c k x w h1
theorem new_kd (w : World) (N : Nat → Prop) (h3 : ∀ j, N j → j < w.heap.size) (h4 : N 0) (h5 : Tbl w) :
    Calls Tryd.prog 11 #[] w fun e w' => e = .returned (.pointer (some ⟨w.heap.size, 0, none⟩)) ∧ KD N w' w.heap.size none 0 ∧ Below w.heap.size w w' := by
  refine (new9_any w).mono ?_
  rintro e w' ⟨rfl, rfl⟩
  have hb := below_new w (.cells #[.map none, .int .i64 0] 73)
  exact ⟨rfl, ⟨⟨_, PD.new w, fun j hj hn => by subst hj; exact absurd (h3 _ hn) (Nat.lt_irrefl _)⟩, fun j hj => Nat.lt_of_lt_of_le (h3 j hj) hb.size, h4, tbl_keep h5 hb⟩, hb⟩
theorem open_none_kk {N : Nat → Prop} {d c : Nat} {w : World} (h : KD N w d none c) :
    Calls Tryd.prog 12 #[.pointer (some ⟨d, 0, none⟩)] w fun e w' => ∃ g, e = .returned (.tuple #[.pointer (some ⟨g, 0, none⟩), .int .i64 0]) ∧ KK N w' g d zKst none c ∧ Std N w w' := by
  obtain ⟨⟨T, h1, h2⟩, h3, h4, h5⟩ := h
  refine (kopen_none T d c w h1).mono ?_
  rintro e w' ⟨g, rfl, hk, hb⟩
  refine ⟨g, rfl, ⟨⟨_, hk, fun j hj hn => ?_⟩, fun j hj => Nat.lt_of_lt_of_le (h3 j hj) hb.size, h4, tbl_keep h5 hb⟩, Std.of_below hb⟩
  rcases hj with hj | hj
  · exact h2 j hj hn
  · have := h3 j hn; omega
/-- Crash of a keep's disk: another disk; the keep stands as well -/
theorem crash_kk {N : Nat → Prop} {g d c : Nat} {k : Kst} {x : Fk} {w : World} (h : KK N w g d k x c) (n : Int) (hn : -9223372036854775808 ≤ n ∧ n < 9223372036854775808) :
    Calls Tryd.prog 24 #[.pointer (some ⟨d, 0, none⟩), .int .i64 n] w fun e w' => e = .returned (.pointer (some ⟨w.heap.size, 0, none⟩)) ∧ KD N w' w.heap.size (crash11 n x) 0 ∧ Below w.heap.size w w' := by
  obtain ⟨⟨S, hk, h2⟩, h3, h4, h5⟩ := h
  obtain ⟨T, v, c0, hP, _⟩ := hk.ex
  refine (crash9_disk T d (files11 x) c0 n w hP (files_len x) hn).mono ?_
  rintro e w' ⟨he, hp, hb⟩
  rw [crash11_is] at hp
  exact ⟨he, ⟨⟨_, hp, fun j hj hn => by have := h3 j hn; have := hj.1; omega⟩, fun j hj => Nat.lt_of_lt_of_le (h3 j hj) hb.size, h4, tbl_keep h5 hb⟩, hb⟩
/-- a disk stands where others make new blocks -/
theorem KD.others {N : Nat → Prop} {w w' : World} {d c : Nat} {x : Fk} (h : KD N w d x c) (hb : Below w.heap.size w w') : KD (fun j => N j ∨ (w.heap.size ≤ j ∧ j < w'.heap.size)) w' d x c := by
  obtain ⟨⟨T, h1, h2⟩, h3, h4, h5⟩ := h
  refine ⟨⟨T, h1.below hb, fun j hj hn => ?_⟩, fun j hj => ?_, .inl h4, tbl_keep h5 hb⟩
  · rcases hn with hn | hn
    · exact h2 j hj hn
    · have := h1.lt j hj; omega
  · rcases hj with hj | hj
    · exact Nat.lt_of_lt_of_le (h3 j hj) hb.size
    · exact hj.2
/-- Open behind a crash -/
theorem open_crash_kk {N : Nat → Prop} {d c : Nat} {k : Kst} {x : Fk} {P : Kst → Prop} {w : World} (n : Int) (hF : Fh x k P) (h : KD N w d (crash11 n x) c) (hc : c ≤ 900000) :
    Calls Tryd.prog 12 #[.pointer (some ⟨d, 0, none⟩)] w fun e w' => ∃ g k' x', e = .returned (.tuple #[.pointer (some ⟨g, 0, none⟩), .int .i64 0]) ∧ P k' ∧ Fh x' k' (fun a => a = k') ∧ KK N w' g d k' x' (c + 1) ∧ Std N w w' := by
  cases x with
  | none =>
    refine (open_none_kk h).mono ?_
    rintro e w' ⟨g, rfl, hk, hs⟩
    obtain ⟨h0, hp, hz⟩ := hF
    have hz : k = zKst := hz
    subst hz
    obtain ⟨⟨S, h1, h2⟩, h3⟩ := hk
    exact ⟨g, zKst, none, rfl, hp, ⟨zKst_ok, rfl, rfl⟩, ⟨⟨S, h1.more (fun _ h => h) h1.lt (Nat.le_succ _), h2⟩, h3⟩, hs⟩
  | some p =>
    obtain ⟨b, f⟩ := p
    obtain ⟨cc, bs, N0, L, u, k', e1, e2, e3, e4, e5, e6, e7, e8, e9, hN1, e10⟩ := hF.crash n
    rw [e1] at h
    obtain ⟨⟨T, h1, h2⟩, h3, h4, h5⟩ := h
    obtain ⟨bix, bst, bcf, bdt⟩ := bs
    refine (kopen_yes T d c cc cc.length w h1 hc h5 bix bst bcf bdt N0 e3 hN1.2 e4 L u e5 k' e6 e7 hN1.1 e9 rfl).mono ?_
    rintro e w' ⟨g, rfl, hk, ho⟩
    have hs : Std N w w' := ho.mono fun j hj => .inl fun e => h2 j hj e
    refine ⟨g, k', _, rfl, e8, e10, ⟨⟨_, hk, fun j hj hn => ?_⟩, fun j hj => Nat.lt_of_lt_of_le (h3 j hj) ho.size, h4, hs.tbl h5 h4⟩, hs⟩
    rcases hj with hj | hj
    · exact h2 j hj hn
    · have := h3 j hn; omega
end Go.Proofs.YtmoaacaopphgbaaDoor
/-
  What a keep's file holds behind each of its steps.
  There are no conditions beyond those that each lemma names.
-/
namespace Go.Proofs.YtmoaacaopphgbaaDoor
open Go.RowKit
set_option maxRecDepth 100000

theorem encs10_one (r : Rcd) : encs10 [r] = encR10 r := by unfold encs10; simp
theorem Fh.hard {x : Fk} {k k' : Kst} {P : Kst → Prop} {t v r : Int} (h : Fh x k P) (hr : hard11 k t v = (r, k')) : Fh (hardF k x t v) k' (fun a => P a ∨ a = k') := by
  unfold hard11 at hr
  unfold hardF
  split at hr
  · rename_i hm
    simp only [Prod.mk.injEq] at hr
    obtain ⟨_, rfl⟩ := hr
    rw [if_pos hm, ← encs10_one]
    have hok : KOk ⟨t, v, k.s, k.log⟩ := ⟨hm, h.1.snap, h.1.ents, h.1.few⟩
    refine Fh.add h [hardR t v] (fun r hr => by rw [List.mem_singleton.1 hr]; exact may_hard hm) (by rw [encs10_one]; have := enc10_short (hardR t v); omega) (fun i hi => ?_) ?_ (fun a ha => .inl ha)
    · match i, hi with
      | 0, _ => exact ⟨k, rfl, h.1, .inl h.2.1⟩
      | 1, _ => exact ⟨_, by show play11 k [hardR t v] = _; show (take11 k (hardR t v)).bind _ = _; rw [take11_hard]; rfl, hok, .inr rfl⟩
    · show (take11 k (hardR t v)).bind _ = _; rw [take11_hard]; rfl
  · rename_i hm
    simp only [Prod.mk.injEq] at hr
    obtain ⟨_, rfl⟩ := hr
    rw [if_neg hm]
    exact h.mono fun a ha => .inl ha
/-- the states behind each of some entries -/
def Mid11 (k : Kst) (l : List Ent) (a : Kst) : Prop := ∃ m i, 1 ≤ m ∧ m ≤ l.length ∧ l[0]?.map (·.ix) = some i ∧ a = put11 k i (l.take m)
theorem Fh.write {x : Fk} {k k' : Kst} {P : Kst → Prop} {l : List Ent} {r : Int} (h : Fh x k P) (hr : write11 k l = (r, k')) (hl : l.length ≤ 80) : Fh (writeF k x l) k' (fun a => P a ∨ (r = 0 ∧ Mid11 k l a)) := by
  by_cases h0 : 0 < l.length
  · obtain ⟨i, hi⟩ : ∃ i, (l[0]'h0).ix = i := ⟨_, rfl⟩
    have hr2 := hr
    rw [write11_1 h0 hi] at hr2
    unfold writeF
    have hne : l ≠ [] := fun e => by rw [e] at h0; simp at h0
    by_cases hr0 : r = 0
    · subst hr0
      rw [if_pos ⟨hne, by rw [hr]⟩]
      split at hr2
      · rename_i hc
        split at hr2
        · simp at hr2
        · rename_i hn
          simp only [Prod.mk.injEq, true_and] at hr2
          subst hr2
          have hi2 : l[0]?.map (·.ix) = some i := by rw [List.getElem?_eq_getElem h0]; exact congrArg some hi
          have key : ∀ m, 1 ≤ m → m ≤ l.length → play11 k ((l.take m).map entR) = some (put11 k i (l.take m)) ∧ KOk (put11 k i (l.take m)) := fun m h1 h2 => by
            have hlm : (l.take m).length = m := by rw [List.length_take]; omega
            have hrow := row11_take l i m hc.2
            have hpl := put11_len (l := l.take m) hc.1
            refine ⟨play11_row _ k i hc.1 hrow (fun e => by rw [e] at hlm; simp at hlm; omega), h.1.put hc.1 hrow ?_⟩
            rw [hlm] at hpl
            omega
          refine Fh.add h (l.map entR) (fun r hr => by obtain ⟨e, he, rfl⟩ := List.mem_map.1 hr; exact may_ent (row11_may hc.2 e he)) (by have := encs10_len (l.map entR); rw [List.length_map] at this; omega) (fun m hm => ?_) ?_ (fun a ha => .inl ha)
          · rw [List.length_map] at hm
            rw [← List.map_take]
            by_cases hm0 : m = 0
            · subst hm0; exact ⟨k, rfl, h.1, .inl h.2.1⟩
            · have hk := key m (by omega) hm
              exact ⟨_, hk.1, hk.2, .inr ⟨rfl, m, i, by omega, hm, hi2, rfl⟩⟩
          · have hk := key l.length (by omega) (Nat.le_refl _)
            rw [List.take_length] at hk
            exact hk.1
      · simp at hr2
    · have hb := write11_bad hr hr0
      rw [if_neg (fun hh => hr0 (by rw [hr] at hh; exact hh.2)), hb.1]
      exact h.mono fun a ha => .inl ha
  · have hl0 : l = [] := List.eq_nil_of_length_eq_zero (by omega)
    subst hl0
    have hr : ((0 : Int), k) = (r, k') := hr
    simp only [Prod.mk.injEq] at hr
    obtain ⟨_, rfl⟩ := hr
    unfold writeF
    rw [if_neg (by simp)]
    exact h.mono fun a ha => .inl ha
theorem Fh.snap {x : Fk} {k k' : Kst} {P : Kst → Prop} {s : Snp} {r : Int} (h : Fh x k P) (hr : snap11 k s = (r, k')) : Fh (snapF k x s) k' (fun a => (r ≠ 0 ∧ P a) ∨ a = k') := by
  unfold snapF
  rw [hr]
  simp only
  by_cases hr0 : r = 0
  · subst hr0
    rw [if_pos rfl]
    exact Fh.whole (snap11_ok h.1 hr) (.inr rfl)
  · have hb := snap11_bad hr hr0
    rw [if_neg hr0, hb.1]
    exact h.mono fun a ha => .inl ⟨hr0, ha⟩
theorem Fh.zero (P : Kst → Prop) (h : P zKst) : Fh none zKst P := ⟨zKst_ok, h, rfl⟩
end Go.Proofs.YtmoaacaopphgbaaDoor
/-
  The laws' begun answers true.
  There are no conditions but that package crc's table lies as it was laid.
-/
namespace Go.Proofs.YtmoaacaopphgbaaDoor
open Go.RowKit Go.Deep
set_option maxRecDepth 100000

def bk1 : Kst := ⟨2, 1, zSnp, []⟩
def bk2 : Kst := ⟨2, 1, zSnp, [⟨1, 2, 1, ByteArray.empty⟩]⟩
theorem bw1 : write11 bk1 [⟨1, 2, 1, ByteArray.empty⟩] = (0, bk2) := by rfl
/-- a slice of one entry that was just laid -/
theorem ens_one {N : Nat → Prop} {w : World} {g : Nat} {ix et kd : Int} {dt : ByteArray} {t : TypeId} (h : Rt w g t [.int .i64 ix, .int .i64 et, .int .i64 kd, .string dt]) (hN : N g) : Ens N w (.slice (some ⟨g, 0, none⟩) 1 1) [⟨ix, et, kd, dt⟩] := ⟨_, _, rfl, Nat.le_refl _, fun _ => ⟨_, 0, rfl, hN, fun j hj => by
  have : j = 0 := by simpa using hj
  subst this
  intro i z hz
  show w.cell? ⟨g, 0 + 0 * 4 + i, none⟩ = _
  rw [show 0 + 0 * 4 + i = i by omega]
  exact h.cell hz⟩⟩
set_option maxHeartbeats 1000000 in
theorem begun11_any (w : World) (hT : Tbl w) : Calls Tryd.prog 10 #[] w fun e w' => e = .returned (.bool true) ∧ Below w.heap.size w w' := by
  have hst : 0 < w.heap.size := cell_lt (hT 0 (by omega))
  obtain ⟨B, hBw⟩ : ∃ B, w.heap.size = B := ⟨_, rfl⟩
  have hnw := new_kd w (fun j => j < B) (fun j hj => by omega) (by omega) hT
  have HN := Lib.hid hnw
  clear hnw
  go_enter Tryd.func10, Tryd.ntmps10
  go_wp2_with fail
  refine HN.out.mono ?_
  rintro e k1 ⟨rfl, hd1, hb1⟩
  rw [hBw] at hd1 hb1 ⊢
  have HD1 := Lib.hid hd1
  go_wp2_with fail
  refine (open_none_kk HD1.out).mono ?_
  rintro e k2 ⟨g, rfl, hk2, hs2⟩
  have hb2 : Below B w k2 := hb1.trans (hs2.below (by rw [← hBw]; have := hb1.size; omega) (fun j hj => hj))
  have HK2 := Lib.hid hk2
  have HB2 := Lib.hid hb2
  clear hd1 hb1 hk2 hs2 hb2 HD1
  go_wp2_with fail
  refine (hard_kk HK2.out (by omega) 2 1 0 bk1 rfl).mono ?_
  rintro e k3 ⟨rfl, hk3, hs3⟩
  have HK3 := Lib.hid hk3
  have HB3 := Lib.hid (HB2.out.trans (hs3.below (by rw [← hBw]; exact HB2.out.size) (fun j hj => hj)))
  obtain ⟨k4, hk4⟩ : ∃ k4, k3.alloc (.cells #[.int .i64 1, .int .i64 2, .int .i64 1, .string ⟨#[]⟩] 41) = k4 := ⟨_, rfl⟩
  have hb4 : Below k3.heap.size k3 k4 := by rw [← hk4]; exact below_new _ _
  have hr4 : Rt k4 k3.heap.size 41 [.int .i64 1, .int .i64 2, .int .i64 1, .string ⟨#[]⟩] := by rw [← hk4]; exact Rt.new _ _ _
  have hK4 := HK3.out.others hb4
  have hw4 := write_kk hK4 (by omega) (some ⟨k3.heap.size, 0, none⟩) 1 1 [⟨1, 2, 1, ByteArray.empty⟩] (ens_one hr4 (.inr ⟨Nat.le_refl _, hr4.lt⟩)) (by simp) (fun e he => by rw [List.mem_singleton.1 he]; show ByteArray.empty.size ≤ _; decide) (fun e he => by rw [List.mem_singleton.1 he]; decide) 0 bk2 bw1
  have HW4 := Lib.hid hw4
  have HB4 := Lib.hid (HB3.out.trans (hb4.mono (by rw [← hBw]; exact HB3.out.size)))
  have hz3 := HB3.out.size
  clear hk3 hs3 hw4 hb4 hr4 hK4
  go_wp2_with fail
  refine HW4.out.mono ?_
  rintro e k5 ⟨rfl, hk5, hs5⟩
  have HB5 := Lib.hid (HB4.out.trans (hs5.below (by have := HB4.out.size; omega) (fun j hj => .inl hj)))
  have HK5 := Lib.hid hk5
  clear hk5 hs5 HW4
  go_wp2_with fail
  refine (sync_kk HK5.out (by omega)).mono ?_
  rintro e k6 ⟨rfl, hk6, hs6⟩
  have HB6 := Lib.hid (HB5.out.trans (hs6.below (by have := HB5.out.size; omega) (fun j hj => .inl hj)))
  have HK6 := Lib.hid hk6
  clear hk6 hs6
  go_wp2_with fail
  refine (crash_kk HK6.out 0 (by omega)).mono ?_
  rintro e k7 ⟨rfl, hd7, hb7⟩
  have HB7 := Lib.hid (HB6.out.trans (hb7.mono (by have := HB6.out.size; omega)))
  have HD7 := Lib.hid hd7
  have hF : Fh (some (sync11 bk2 (writeF bk1 (hardF zKst none 2 1) [⟨1, 2, 1, ByteArray.empty⟩]))) bk2 (fun a => a = bk2) := (((Fh.zero (fun _ => True) trivial).hard (t := 2) (v := 1) (r := 0) (k' := bk1) rfl).write bw1 (by simp)).sync
  have HF := Lib.hid hF
  clear hd7 hb7 hF
  go_wp2_with fail
  refine (open_crash_kk 0 HF.out HD7.out (by omega)).mono ?_
  rintro e k8 ⟨g8, k', x', rfl, rfl, hF8, hk8, hs8⟩
  have HB8 := Lib.hid (HB7.out.trans (hs8.below (by have := HB7.out.size; omega) (fun j hj => .inl hj)))
  have HK8 := Lib.hid hk8
  clear hF8 hk8 hs8
  go_wp2_with fail
  have hs8 : Calls Tryd.prog 21 #[.pointer (some ⟨g8, 0, none⟩)] k8 fun e w' => ∃ v, e = .returned (.agg #[.int .i64 2, .int .i64 1, .int .i64 0, .int .i64 0, .string ⟨#[]⟩, .string ⟨#[]⟩, v]) ∧ OwnEn k8.heap.size v [⟨1, 2, 1, ByteArray.empty⟩] w' ∧ Below k8.heap.size k8 w' := state_kk HK8.out
  refine hs8.mono ?_
  rintro e k9 ⟨v9, rfl, hv9, hb9⟩
  have HB9 := Lib.hid (HB8.out.trans (hb9.mono (by have := HB8.out.size; omega)))
  obtain ⟨A9, c9, rfl⟩ := hv9.slice
  have hE9 := Ens.of_own hv9
  obtain ⟨g9, o9, e9, hg9, a0, a1, a2, a3⟩ := hE9.four (ix := 1) (et := 2) (kd := 1) (dt := ByteArray.empty) 0 (by decide) rfl
  rw [show o9 + 0 * 4 = o9 by omega] at a0 a1 a2 a3
  go_wp2_with fail
  go_ret
  exact ⟨rfl, by
    rw [hBw]
    exact HB9.out.trans ((below_new _ _).mono (by rw [← hBw]; exact HB9.out.size))⟩
end Go.Proofs.YtmoaacaopphgbaaDoor
