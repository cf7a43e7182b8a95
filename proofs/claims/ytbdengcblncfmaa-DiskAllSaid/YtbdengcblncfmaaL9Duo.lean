/-
  The program's disk and the reference's, next to one another: a step on one of them leaves the other.
  The disks have at most 999 files each.
-/
import Derived.Test.YtbdengcblncfmaaL9Pla
set_option linter.unusedSimpArgs false
set_option linter.unusedVariables false
namespace Go.Proofs.Ytbdengcblncfmaa
open Go.RowKit
set_option maxRecDepth 100000

theorem OwnL.av {N : Nat → Prop} {B : Nat} {v : Value} {l : List Fil} {w : World} (h : OwnL N B v l w) : Av N v := by
  obtain ⟨ps, e, h1, h2⟩ := h
  exact h1.2
theorem OwnL.off {N T : Nat → Prop} {B : Nat} {v : Value} {l : List Fil} {w w' : World} (h : OwnL N B v l w) (ho : Off T w w') (hT : ∀ k, T k → N k) : OwnL N B v l w' := by
  obtain ⟨ps, e, h1, h2⟩ := h
  exact ⟨ps, e, ⟨ho.ownsRow h1.1 (fun k hk ht => h1.2 k hk (hT k ht)), h1.2⟩, fun p hp => ⟨ho.ownsRow (h2 p hp).1 (fun k hk ht => (h2 p hp).2 k hk (hT k ht)), (h2 p hp).2⟩⟩
theorem av_more {N M : Nat → Prop} {w : World} {B e s n : Nat} {v : Value} {xs : List Value} (h : w.ownsRow B e s v n xs) (ha : Av N v) (hM : ∀ k, M k → N k ∨ w.heap.size ≤ k) : Av M v := fun k hk hm => by
  rcases hM k hm with h1 | h1
  · exact ha k hk h1
  · have := (World.ownsRow.lt h k hk).2
    omega
theorem Dsk.off {N T : Nat → Prop} {w w' : World} {B g : Nat} {v : Value} {l : List Fil} {c : Nat} (h : Dsk N w B g v l c) (ho : Off T w w') (hT : ∀ k, T k → N k) : Dsk N w' B g v l c :=
  ⟨h.lo, h.av, (ho.block g h.lt (fun ht => h.av (hT g ht))).trans h.here, h.own.off ho hT⟩
/-- other blocks are avoided, too, where they are new -/
theorem Dsk.avoid {N M : Nat → Prop} {w : World} {B g : Nat} {v : Value} {l : List Fil} {c : Nat} (h : Dsk N w B g v l c) (hM : ∀ k, M k → N k ∨ w.heap.size ≤ k) : Dsk M w B g v l c := by
  refine ⟨h.lo, fun hm => ?_, h.here, ?_⟩
  · rcases hM g hm with h1 | h1
    · exact h.av h1
    · have := h.lt; omega
  · obtain ⟨ps, e, h1, h2⟩ := h.own
    exact ⟨ps, e, ⟨h1.1, av_more h1.1 h1.2 hM⟩, fun p hp => ⟨(h2 p hp).1, av_more (h2 p hp).1 (h2 p hp).2 hM⟩⟩
theorem Dsk.down {N : Nat → Prop} {w : World} {B C g : Nat} {v : Value} {l : List Fil} {c : Nat} (h : Dsk N w B g v l c) (hC : C ≤ B) : Dsk N w C g v l c := ⟨Nat.le_trans hC h.lo, h.av, h.here, h.own.down hC⟩
/-- a step on the program's disk leaves the reference's -/
theorem Dsk.did {S : Nat → Prop} {w w' : World} {B g : Nat} {v : Value} {l : List Fil} {c : Nat} (h : Dsk S w B g v l c) (ho : Off S w w') : Dsk (Grw S w w') w' B g v l c :=
  (h.avoid (M := Grw S w w') (fun _ hk => hk.imp id And.left)).off ho (fun _ hk => .inl hk)
/-- a step on the reference's disk leaves the program's -/
theorem PD.frm {S : Nat → Prop} {w w' : World} {B X gd g : Nat} {v : Value} {l l' : List Fil} {c c' : Nat} (h : PD w S gd l c) (hd : Dsk S w B g v l' c') (hb : Below X w w') (hf : Frm w w' g v.ownBlock) : PD w' S gd l c :=
  h.off (T := fun k => k = g ∨ v.ownBlock = some k) ⟨hb.os, hb.tape, hb.output, hb.size, fun k hk hn => hf.2 k hk (fun e => hn (.inl e)) (fun e => hn (.inr e))⟩ (fun k hk ht => by
    rcases ht with e | e
    · rw [e] at hk; exact hd.av hk
    · exact hd.own.av k e hk)
/-- the program's disk and the reference's: their blocks lie from X on, and apart -/
def Duo (X : Nat) (w : World) (gd gr : Nat) (l : List Fil) (c : Nat) (l' : List Fil) (c' : Nat) : Prop :=
  X ≤ w.heap.size ∧ Fit9 l' ∧ ∃ (S : Nat → Prop) (v : Value), PD w S gd l c ∧ (∀ k, S k → X ≤ k) ∧ Dsk S w X gr v l' c'
theorem Duo.below {X gd gr c c' : Nat} {l l' : List Fil} {w w' : World} (h : Duo X w gd gr l c l' c') (hb : Below w.heap.size w w') : Duo X w' gd gr l c l' c' := by
  obtain ⟨hX, hf, S, v, hp, hS, hd⟩ := h
  exact ⟨Nat.le_trans hX hb.size, hf, S, v, hp.below hb, hS, hd.below hb⟩
theorem Duo.lo {X gd gr c c' : Nat} {l l' : List Fil} {w : World} (h : Duo X w gd gr l c l' c') : X ≤ w.heap.size := h.1
/-- a step on the program's disk -/
theorem Duo.d {X gd gr c c' : Nat} {l l' : List Fil} {w : World} {r : Int × List Fil} {f : _} {args : _} (h : Duo X w gd gr l c l' c') (hc : ∀ S, PD w S gd l c → (∀ k, S k → X ≤ k) → Calls Try.prog f args w (Did S gd c r w)) :
    Calls Try.prog f args w fun e w' => e = .returned (.int .i64 r.1) ∧ Duo X w' gd gr r.2 (c + 1) l' c' ∧ Below X w w' := by
  obtain ⟨hX, hf, S, v, hp, hS, hd⟩ := h
  refine (hc S hp hS).mono ?_
  rintro e w' ⟨he, hp2, ho⟩
  refine ⟨he, ⟨Nat.le_trans hX ho.size, hf, _, v, hp2, fun k hk => ?_, hd.did ho⟩, ho.below hS hX⟩
  rcases hk with h1 | h1
  · exact hS k h1
  · omega
theorem app_duo {X gd gr c c' : Nat} {l l' : List Fil} {n : ByteArray} {u : Value} {bs : List UInt8} {w : World} (h : Duo X w gd gr l c l' c') (hn : n.size ≤ maxLen) (hc : c ≤ 1000000) (hl : l.length ≤ 999) (hu : Byt w X u bs) (hbl : bs.length ≤ 1000) (r : Int × List Fil) (hr : app9 n bs l = r) :
    Calls Try.prog 14 #[.pointer (some ⟨gd, 0, none⟩), .string n, u] w fun e w' => e = .returned (.int .i64 r.1) ∧ Duo X w' gd gr r.2 (c + 1) l' c' ∧ Below X w w' := by
  subst hr
  exact h.d fun S hp hS => app9_disk S gd l c n u bs w hp hn hc (by omega) (Safe9.of_byt hu hS h.lo) (by omega)
theorem swap_duo {X gd gr c c' : Nat} {l l' : List Fil} {n : ByteArray} {u : Value} {bs : List UInt8} {w : World} (h : Duo X w gd gr l c l' c') (hn : n.size ≤ maxLen) (hc : c ≤ 1000000) (hl : l.length ≤ 999) (hu : Byt w X u bs) (hbl : bs.length ≤ 1000) (r : Int × List Fil) (hr : swap9 n bs l = r) :
    Calls Try.prog 18 #[.pointer (some ⟨gd, 0, none⟩), .string n, u] w fun e w' => e = .returned (.int .i64 r.1) ∧ Duo X w' gd gr r.2 (c + 1) l' c' ∧ Below X w w' := by
  subst hr
  exact h.d fun S hp hS => swap9_disk S gd l c n u bs w hp hn hc (by omega) (Safe9.of_byt hu hS h.lo) (by omega)
theorem sync_duo {X gd gr c c' : Nat} {l l' : List Fil} {n : ByteArray} {w : World} (h : Duo X w gd gr l c l' c') (hn : n.size ≤ maxLen) (hc : c ≤ 1000000) (hl : l.length ≤ 999) (r : Int × List Fil) (hr : sync9 n l = r) :
    Calls Try.prog 16 #[.pointer (some ⟨gd, 0, none⟩), .string n] w fun e w' => e = .returned (.int .i64 r.1) ∧ Duo X w' gd gr r.2 (c + 1) l' c' ∧ Below X w w' := by
  subst hr
  exact h.d fun S hp hS => sync9_disk S gd l c n w hp hn hc (by omega)
theorem rapp_duo {X gd gr c c' : Nat} {l l' : List Fil} {n : ByteArray} {u : Value} {bs : List UInt8} {w : World} (h : Duo X w gd gr l c l' c') (hn : n.size ≤ 1000000) (hc : c' ≤ 1000000) (hl : l'.length ≤ 999) (hu : Byt w X u bs) (hbl : bs.length ≤ 1000) (r : Int × List Fil) (hr : app9 n bs l' = r) :
    Calls Try.prog 15 #[.pointer (some ⟨gr, 0, none⟩), .string n, u] w fun e w' => e = .returned (.int .i64 r.1) ∧ Duo X w' gd gr l c r.2 (c' + 1) ∧ Below X w w' := by
  subst hr
  obtain ⟨hX, hf, S, v, hp, hS, hd⟩ := h
  have hlt := hp.lt
  refine (rapp_disk X gr v u l' c' n bs w hd hl hf.len hc hX hlt hn hu (by omega)).mono ?_
  rintro e w' ⟨⟨h1, h2, h3⟩, hb, hfr⟩
  have hp2 := hp.frm hd hb hfr
  have hX2 := Nat.le_trans hX hb.size
  rcases hg : goodN n with _ | _
  · obtain ⟨he, hd2⟩ := h1 hg
    have e1 : app9 n bs l' = (1, l') := by unfold app9; rw [if_pos hg]
    rw [e1]
    exact ⟨he, ⟨hX2, hf, S, v, hp2, hS, hd2⟩, hb⟩
  · by_cases hbig : 1048576 < lenF n l' + bs.length
    · obtain ⟨he, hd2⟩ := h2 hg hbig
      have e1 : app9 n bs l' = (5, l') := by
        rw [lenF_is hf.1] at hbig
        unfold app9; rw [if_neg (by rw [hg]; simp), if_pos hbig]
      rw [e1]
      exact ⟨he, ⟨hX2, hf, S, v, hp2, hS, hd2⟩, hb⟩
    · obtain ⟨he, l1, k, hk, v2, hh, hd2⟩ := h3 hg (by omega)
      have hf2 : Fit9 (app9 n bs l').2 := hf.app
      rw [app9_is hf.1 hh hk hg (by omega)] at hf2 ⊢
      exact ⟨he, ⟨hX2, hf2, S, v2, hp2, hS, hd2⟩, hb⟩
theorem rswap_duo {X gd gr c c' : Nat} {l l' : List Fil} {n : ByteArray} {u : Value} {bs : List UInt8} {w : World} (h : Duo X w gd gr l c l' c') (hn : n.size ≤ 1000000) (hc : c' ≤ 1000000) (hl : l'.length ≤ 999) (hu : Byt w X u bs) (hbl : bs.length ≤ 1000) (r : Int × List Fil) (hr : swap9 n bs l' = r) :
    Calls Try.prog 19 #[.pointer (some ⟨gr, 0, none⟩), .string n, u] w fun e w' => e = .returned (.int .i64 r.1) ∧ Duo X w' gd gr l c r.2 (c' + 1) ∧ Below X w w' := by
  subst hr
  obtain ⟨hX, hf, S, v, hp, hS, hd⟩ := h
  have hlt := hp.lt
  refine (rswap_disk X gr v u l' c' n bs w hd hl hc hX hlt hn hu (by omega)).mono ?_
  rintro e w' ⟨⟨h1, h2, h3⟩, hb, hfr⟩
  have hp2 := hp.frm hd hb hfr
  have hX2 := Nat.le_trans hX hb.size
  rcases hg : goodN n with _ | _
  · obtain ⟨he, hd2⟩ := h1 hg
    have e1 : swap9 n bs l' = (1, l') := by unfold swap9; rw [if_pos hg]
    rw [e1]
    exact ⟨he, ⟨hX2, hf, S, v, hp2, hS, hd2⟩, hb⟩
  · obtain ⟨he, l1, k, v2, hh, hd2⟩ := h3 hg (by omega)
    have hf2 : Fit9 (swap9 n bs l').2 := hf.swap
    rw [swap9_is hf.1 hh hh.lt hg (by omega)] at hf2 ⊢
    exact ⟨he, ⟨hX2, hf2, S, v2, hp2, hS, hd2⟩, hb⟩
theorem rsync_duo {X gd gr c c' : Nat} {l l' : List Fil} {n : ByteArray} {w : World} (h : Duo X w gd gr l c l' c') (hc : c' ≤ 1000000) (hl : l'.length ≤ 999) (r : Int × List Fil) (hr : sync9 n l' = r) :
    Calls Try.prog 17 #[.pointer (some ⟨gr, 0, none⟩), .string n] w fun e w' => e = .returned (.int .i64 r.1) ∧ Duo X w' gd gr l c r.2 (c' + 1) ∧ Below X w w' := by
  subst hr
  obtain ⟨hX, hf, S, v, hp, hS, hd⟩ := h
  refine (rsync_disk X gr v l' c' n w hd (by omega) hc hX).mono ?_
  rintro e w' ⟨h1, h2, hb, hfr⟩
  have hp2 := hp.frm hd hb hfr
  have hX2 := Nat.le_trans hX hb.size
  rcases hix : ixF n l' with _ | k
  · obtain ⟨he, hd2⟩ := h1 hix
    have e1 : sync9 n l' = (13, l') := by unfold sync9; rw [getF_no hix]
    rw [e1]
    exact ⟨he, ⟨hX2, hf, S, v, hp2, hS, hd2⟩, hb⟩
  · obtain ⟨hk, hn, hg⟩ := getF_ix hf.1 hix
    obtain ⟨he, hd2⟩ := h2 k hk hix
    have hf2 : Fit9 (sync9 n l').2 := hf.sync
    have e1 : sync9 n l' = (0, l'.set k ⟨l'[k].name, l'[k].b, l'[k].b.length, true⟩) := by
      unfold sync9
      rw [hg]
      show (0, setF _ _) = _
      rw [setF_at hf.1 k hk (by exact hn), hn]
    rw [e1] at hf2 ⊢
    exact ⟨he, ⟨hX2, hf2, S, v, hp2, hS, hd2⟩, hb⟩
theorem read_duo_no {X gd gr c c' : Nat} {l l' : List Fil} {n : ByteArray} {w : World} (h : Duo X w gd gr l c l' c') (hn : n.size ≤ maxLen) (hg : getF n l = none) :
    Calls Try.prog 20 #[.pointer (some ⟨gd, 0, none⟩), .string n] w fun e w' => e = .returned (.tuple #[.slice none 0 0, .int .i64 13]) ∧ Below w.heap.size w w' := by
  obtain ⟨hX, hf, S, v, hp, hS, hd⟩ := h
  exact read9_no S gd l c n w hp hn hg
theorem read_duo_yes {X gd gr c c' : Nat} {l l' : List Fil} {n : ByteArray} {w : World} (h : Duo X w gd gr l c l' c') (hn : n.size ≤ maxLen) (f : Fil) (hg : getF n l = some f) :
    Calls Try.prog 20 #[.pointer (some ⟨gd, 0, none⟩), .string n] w fun e w' => ∃ v, e = .returned (.tuple #[v, .int .i64 0]) ∧ OwnB w.heap.size v f.b w' ∧ Below w.heap.size w w' := by
  obtain ⟨hX, hf, S, v, hp, hS, hd⟩ := h
  exact read9_yes S gd l c n f w hp hn hg
theorem at_duo_no {X gd gr c c' : Nat} {l l' : List Fil} {n : ByteArray} {w : World} (h : Duo X w gd gr l c l' c') (hl : l'.length ≤ 999) (hg : getF n l' = none) :
    Calls Try.prog 21 #[.pointer (some ⟨gr, 0, none⟩), .string n] w fun e w' => e = .returned (.pointer none) ∧ w = w' := by
  obtain ⟨hX, hf, S, v, hp, hS, hd⟩ := h
  have hr := rat_any X gr v l' c' n w hd (by omega)
  rcases hix : ixF n l' with _ | k
  · rw [hix] at hr; exact hr
  · obtain ⟨hk, hn, hg2⟩ := getF_ix hf.1 hix
    rw [hg] at hg2; cases hg2
theorem at_duo_yes {X gd gr c c' : Nat} {l l' : List Fil} {n : ByteArray} {w : World} (h : Duo X w gd gr l c l' c') (hl : l'.length ≤ 999) (f : Fil) (hg : getF n l' = some f) :
    Calls Try.prog 21 #[.pointer (some ⟨gr, 0, none⟩), .string n] w fun e w' => ∃ a, e = .returned (.pointer (some a)) ∧ w = w' := by
  obtain ⟨hX, hf, S, v, hp, hS, hd⟩ := h
  have hr := rat_any X gr v l' c' n w hd (by omega)
  rcases hix : ixF n l' with _ | k
  · rw [getF_no hix] at hg; cases hg
  · rw [hix] at hr
    obtain ⟨hk, hn, hg2⟩ := getF_ix hf.1 hix
    obtain ⟨A, ca, hv⟩ := hd.own.slice
    subst hv
    obtain ⟨g2, u, hA, _⟩ := hd.own.at_ k hk
    subst hA
    exact hr.mono fun e w' h => ⟨_, h.1, h.2⟩
theorem crash_duo {X gd gr c c' : Nat} {l l' : List Fil} {m : Int} {w : World} (h : Duo X w gd gr l c l' c') (hl : l.length ≤ 999) (hm : -9223372036854775808 ≤ m ∧ m < 9223372036854775808) :
    Calls Try.prog 22 #[.pointer (some ⟨gd, 0, none⟩), .int .i64 m] w fun e w' => e = .returned (.pointer (some ⟨w.heap.size, 0, none⟩)) ∧ PD w' (fun k => w.heap.size ≤ k ∧ k < w'.heap.size) w.heap.size (crash9 m l) 0 ∧ Below w.heap.size w w' := by
  obtain ⟨hX, hf, S, v, hp, hS, hd⟩ := h
  exact crash9_disk S gd l c m w hp (by omega) hm
theorem rcrash_duo {X gd gr c c' : Nat} {l l' : List Fil} {m : Int} {w : World} (N : Nat → Prop) (h : Duo X w gd gr l c l' c') (hl : l'.length ≤ 999) (hm : -9223372036854775808 ≤ m ∧ m < 9223372036854775808) (hN : ∀ k, N k → k < w.heap.size) :
    Calls Try.prog 23 #[.pointer (some ⟨gr, 0, none⟩), .int .i64 m] w fun e w' => ∃ g2 v2, e = .returned (.pointer (some ⟨g2, 0, none⟩)) ∧ Dsk N w' w.heap.size g2 v2 (crash9 m l') 0 ∧ Below w.heap.size w w' := by
  obtain ⟨hX, hf, S, v, hp, hS, hd⟩ := h
  exact rcrash_disk X gr v l' c' m w hd hN (by omega) (fun f hf2 => ⟨(hf.2 f hf2).2.2.1, (hf.2 f hf2).2.1⟩) hm
/-- two crashed disks, the program's made first -/
theorem Duo.crash1 {X gd gr c c' : Nat} {l l' : List Fil} {m : Int} {w w1 w2 : World} {g2 : Nat} {v2 : Value} (h : Duo X w gd gr l c l' c') (hp : PD w1 (fun k => w.heap.size ≤ k ∧ k < w1.heap.size) w.heap.size (crash9 m l) 0) (hb1 : Below w.heap.size w w1)
    (hd : Dsk (fun k => w.heap.size ≤ k ∧ k < w1.heap.size) w2 w1.heap.size g2 v2 (crash9 m l') 0) (hb2 : Below w1.heap.size w1 w2) : Duo X w2 w.heap.size g2 (crash9 m l) 0 (crash9 m l') 0 := by
  have hs1 := hb1.size
  have hs2 := hb2.size
  have hX := h.lo
  exact ⟨by omega, h.2.1.crash, _, v2, hp.below hb2, fun k hk => Nat.le_trans hX hk.1, hd.down (by omega)⟩
/-- .. the reference's made first -/
theorem Duo.crash2 {X gd gr c c' : Nat} {l l' : List Fil} {m : Int} {w w1 w2 : World} {g2 : Nat} {v2 : Value} (h : Duo X w gd gr l c l' c') (hd : Dsk (fun _ => False) w1 w.heap.size g2 v2 (crash9 m l') 0) (hb1 : Below w.heap.size w w1)
    (hp : PD w2 (fun k => w1.heap.size ≤ k ∧ k < w2.heap.size) w1.heap.size (crash9 m l) 0) (hb2 : Below w1.heap.size w1 w2) : Duo X w2 w1.heap.size g2 (crash9 m l) 0 (crash9 m l') 0 := by
  have hs1 := hb1.size
  have hs2 := hb2.size
  have hX := h.lo
  exact ⟨by omega, h.2.1.crash, _, v2, hp, fun k hk => by omega, ((hd.avoid (M := fun k => w1.heap.size ≤ k ∧ k < w2.heap.size) (fun k hk => .inr hk.1)).below hb2).down (by omega)⟩
end Go.Proofs.Ytbdengcblncfmaa
