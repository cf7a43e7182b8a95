/-
  Two new disks next to one another; a block that is none of theirs stands.
  The disks have at most 999 files each.
-/
import Derived.Test.YtbdengcblncfmaaL9Duo
import Derived.Test.YtbdengcblncfmaaL1Cut
import Derived.Test.YtbdengcblncfmaaL4Cut
import Derived.Test.YtbdengcblncfmaaRegG
set_option linter.unusedSimpArgs false
set_option linter.unusedVariables false
namespace Go.Proofs.Ytbdengcblncfmaa
open Go.RowKit
set_option maxRecDepth 100000

/-- two new disks -/
theorem duo_new (w : World) : Duo w.heap.size ((w.alloc (.cells #[.map none, .int .i64 0] 57)).alloc (.cells #[.slice none 0 0, .int .i64 0] 29)) w.heap.size (w.heap.size + 1) [] 0 [] 0 := by
  have h1 : (w.alloc (.cells #[.map none, .int .i64 0] 57)).heap.size = w.heap.size + 1 := by simp
  have h2 := PD.new w
  refine ⟨by simp; omega, Fit9.nil, _, .slice none 0 0, h2.below (below_new _ _), fun k hk => by subst hk; exact Nat.le_refl _, ⟨by omega, fun e => by omega, by rw [← h1]; exact heap_alloc_new _ _, OwnL.nil _ _ _⟩⟩
/-- the two disks, and a block b that is none of theirs -/
def Duh (X b : Nat) (w : World) (gd gr : Nat) (l : List Fil) (c : Nat) (l' : List Fil) (c' : Nat) : Prop :=
  b < w.heap.size ∧ X ≤ w.heap.size ∧ Fit9 l' ∧ ∃ (S : Nat → Prop) (v : Value), ¬ S b ∧ PD w S gd l c ∧ (∀ k, S k → X ≤ k) ∧ Dsk (fun k => S k ∨ k = b) w X gr v l' c'
theorem Duh.duo {X b gd gr c c' : Nat} {l l' : List Fil} {w : World} (h : Duh X b w gd gr l c l' c') : Duo X w gd gr l c l' c' := by
  obtain ⟨hbl, hX, hf, S, v, hSb, hp, hS, hd⟩ := h
  exact ⟨hX, hf, S, v, hp, hS, hd.avoid fun _ hk => .inl (.inl hk)⟩
theorem Duo.duh {X b gd gr c c' : Nat} {l l' : List Fil} {w w1 : World} (h : Duo X w gd gr l c l' c') (hb : Below w.heap.size w w1) (h1 : w.heap.size ≤ b) (h2 : b < w1.heap.size) : Duh X b w1 gd gr l c l' c' := by
  obtain ⟨hX, hf, S, v, hp, hS, hd⟩ := h
  exact ⟨h2, Nat.le_trans hX hb.size, hf, S, v, fun hs => by have := hp.lt b hs; omega, hp.below hb, hS, (hd.avoid (M := fun k => S k ∨ k = b) (fun k hk => hk.imp id (fun e => by omega))).below hb⟩
theorem Duh.below {X b gd gr c c' : Nat} {l l' : List Fil} {w w' : World} (h : Duh X b w gd gr l c l' c') (hb : Below w.heap.size w w') : Duh X b w' gd gr l c l' c' := by
  obtain ⟨hbl, hX, hf, S, v, hSb, hp, hS, hd⟩ := h
  exact ⟨Nat.lt_of_lt_of_le hbl hb.size, Nat.le_trans hX hb.size, hf, S, v, hSb, hp.below hb, hS, hd.below hb⟩
/-- what came of a step: its answer, the disks, the block that stands -/
def Dih (X b gd gr : Nat) (x : Int) (l : List Fil) (c : Nat) (l' : List Fil) (c' : Nat) (w : World) (e : Ending) (w' : World) : Prop :=
  e = .returned (.int .i64 x) ∧ Duh X b w' gd gr l c l' c' ∧ w'.heap[b]? = w.heap[b]? ∧ Below X w w'
theorem Duh.d {X b gd gr c c' : Nat} {l l' : List Fil} {w : World} {r : Int × List Fil} {f : _} {args : _} (h : Duh X b w gd gr l c l' c') (hc : ∀ S, PD w S gd l c → (∀ k, S k → X ≤ k) → Calls Try.prog f args w (Did S gd c r w)) :
    Calls Try.prog f args w (Dih X b gd gr r.1 r.2 (c + 1) l' c' w) := by
  obtain ⟨hbl, hX, hf, S, v, hSb, hp, hS, hd⟩ := h
  refine (hc S hp hS).mono ?_
  rintro e w' ⟨he, hp2, ho⟩
  refine ⟨he, ⟨Nat.lt_of_lt_of_le hbl ho.size, Nat.le_trans hX ho.size, hf, _, v, fun hg => ?_, hp2, fun k hk => ?_, (hd.avoid (M := fun k => Grw S w w' k ∨ k = b) (fun k hk => ?_)).off ho (fun k hk => .inl (.inl hk))⟩, ho.block b hbl hSb, ho.below hS hX⟩
  · rcases hg with h1 | h1
    · exact hSb h1
    · omega
  · rcases hk with h1 | h1
    · exact hS k h1
    · omega
  · rcases hk with (h1 | h1) | h1
    · exact .inl (.inl h1)
    · exact .inr h1.1
    · exact .inl (.inr h1)
theorem app_duh {X b gd gr c c' : Nat} {l l' : List Fil} {n : ByteArray} {u : Value} {bs : List UInt8} {w : World} (h : Duh X b w gd gr l c l' c') (hn : n.size ≤ maxLen) (hc : c ≤ 1000000) (hl : l.length ≤ 999) (hu : Byt w X u bs) (hbl : bs.length ≤ 1000) (r : Int × List Fil) (hr : app9 n bs l = r) :
    Calls Try.prog 14 #[.pointer (some ⟨gd, 0, none⟩), .string n, u] w (Dih X b gd gr r.1 r.2 (c + 1) l' c' w) := by
  subst hr
  exact h.d fun S hp hS => app9_disk S gd l c n u bs w hp hn hc (by omega) (Safe9.of_byt hu hS h.2.1) (by omega)
theorem swap_duh {X b gd gr c c' : Nat} {l l' : List Fil} {n : ByteArray} {u : Value} {bs : List UInt8} {w : World} (h : Duh X b w gd gr l c l' c') (hn : n.size ≤ maxLen) (hc : c ≤ 1000000) (hl : l.length ≤ 999) (hu : Byt w X u bs) (hbl : bs.length ≤ 1000) (r : Int × List Fil) (hr : swap9 n bs l = r) :
    Calls Try.prog 18 #[.pointer (some ⟨gd, 0, none⟩), .string n, u] w (Dih X b gd gr r.1 r.2 (c + 1) l' c' w) := by
  subst hr
  exact h.d fun S hp hS => swap9_disk S gd l c n u bs w hp hn hc (by omega) (Safe9.of_byt hu hS h.2.1) (by omega)
theorem sync_duh {X b gd gr c c' : Nat} {l l' : List Fil} {n : ByteArray} {w : World} (h : Duh X b w gd gr l c l' c') (hn : n.size ≤ maxLen) (hc : c ≤ 1000000) (hl : l.length ≤ 999) (r : Int × List Fil) (hr : sync9 n l = r) :
    Calls Try.prog 16 #[.pointer (some ⟨gd, 0, none⟩), .string n] w (Dih X b gd gr r.1 r.2 (c + 1) l' c' w) := by
  subst hr
  exact h.d fun S hp hS => sync9_disk S gd l c n w hp hn hc (by omega)
/-- behind a step on the reference's disk -/
theorem Duh.r {X b gd gr c c' d' : Nat} {l l' m' : List Fil} {w w' : World} {S : Nat → Prop} {v v2 : Value} (hbl : b < w.heap.size) (hX : X ≤ w.heap.size) (hf : Fit9 m') (hSb : ¬ S b) (hp : PD w S gd l c) (hS : ∀ k, S k → X ≤ k) (hd : Dsk (fun k => S k ∨ k = b) w X gr v l' c')
    (hd2 : Dsk (fun k => S k ∨ k = b) w' X gr v2 m' d') (hb : Below X w w') (hfr : Frm w w' gr v.ownBlock) : Duh X b w' gd gr l c m' d' ∧ w'.heap[b]? = w.heap[b]? ∧ Below X w w' :=
  ⟨⟨Nat.lt_of_lt_of_le hbl hb.size, Nat.le_trans hX hb.size, hf, S, v2, hSb, hp.frm (hd.avoid fun _ hk => .inl (.inl hk)) hb hfr, hS, hd2⟩, hfr.2 b hbl (fun e => hd.av (.inr e.symm)) (fun e => hd.own.av b e (.inr rfl)), hb⟩
theorem rapp_duh {X b gd gr c c' : Nat} {l l' : List Fil} {n : ByteArray} {u : Value} {bs : List UInt8} {w : World} (h : Duh X b w gd gr l c l' c') (hn : n.size ≤ 1000000) (hc : c' ≤ 1000000) (hl : l'.length ≤ 999) (hu : Byt w X u bs) (hbs : bs.length ≤ 1000) (r : Int × List Fil) (hr : app9 n bs l' = r) :
    Calls Try.prog 15 #[.pointer (some ⟨gr, 0, none⟩), .string n, u] w (Dih X b gd gr r.1 l c r.2 (c' + 1) w) := by
  subst hr
  obtain ⟨hbl, hX, hf, S, v, hSb, hp, hS, hd⟩ := h
  have hlt : ∀ k, (S k ∨ k = b) → k < w.heap.size := fun k hk => by
    rcases hk with h1 | h1
    · exact hp.lt k h1
    · omega
  refine (rapp_disk X gr v u l' c' n bs w hd hl hf.len hc hX hlt hn hu (by omega)).mono ?_
  rintro e w' ⟨⟨h1, h2, h3⟩, hb, hfr⟩
  rcases hg : goodN n with _ | _
  · obtain ⟨he, hd2⟩ := h1 hg
    have e1 : app9 n bs l' = (1, l') := by unfold app9; rw [if_pos hg]
    rw [e1]
    exact ⟨he, Duh.r hbl hX hf hSb hp hS hd hd2 hb hfr⟩
  · by_cases hbig : 1048576 < lenF n l' + bs.length
    · obtain ⟨he, hd2⟩ := h2 hg hbig
      have e1 : app9 n bs l' = (5, l') := by
        rw [lenF_is hf.1] at hbig
        unfold app9; rw [if_neg (by rw [hg]; simp), if_pos hbig]
      rw [e1]
      exact ⟨he, Duh.r hbl hX hf hSb hp hS hd hd2 hb hfr⟩
    · obtain ⟨he, l1, k, hk, v2, hh, hd2⟩ := h3 hg (by omega)
      have hf2 : Fit9 (app9 n bs l').2 := hf.app
      rw [app9_is hf.1 hh hk hg (by omega)] at hf2 ⊢
      exact ⟨he, Duh.r hbl hX hf2 hSb hp hS hd hd2 hb hfr⟩
theorem rswap_duh {X b gd gr c c' : Nat} {l l' : List Fil} {n : ByteArray} {u : Value} {bs : List UInt8} {w : World} (h : Duh X b w gd gr l c l' c') (hn : n.size ≤ 1000000) (hc : c' ≤ 1000000) (hl : l'.length ≤ 999) (hu : Byt w X u bs) (hbs : bs.length ≤ 1000) (r : Int × List Fil) (hr : swap9 n bs l' = r) :
    Calls Try.prog 19 #[.pointer (some ⟨gr, 0, none⟩), .string n, u] w (Dih X b gd gr r.1 l c r.2 (c' + 1) w) := by
  subst hr
  obtain ⟨hbl, hX, hf, S, v, hSb, hp, hS, hd⟩ := h
  have hlt : ∀ k, (S k ∨ k = b) → k < w.heap.size := fun k hk => by
    rcases hk with h1 | h1
    · exact hp.lt k h1
    · omega
  refine (rswap_disk X gr v u l' c' n bs w hd hl hc hX hlt hn hu (by omega)).mono ?_
  rintro e w' ⟨⟨h1, h2, h3⟩, hb, hfr⟩
  rcases hg : goodN n with _ | _
  · obtain ⟨he, hd2⟩ := h1 hg
    have e1 : swap9 n bs l' = (1, l') := by unfold swap9; rw [if_pos hg]
    rw [e1]
    exact ⟨he, Duh.r hbl hX hf hSb hp hS hd hd2 hb hfr⟩
  · obtain ⟨he, l1, k, v2, hh, hd2⟩ := h3 hg (by omega)
    have hf2 : Fit9 (swap9 n bs l').2 := hf.swap
    rw [swap9_is hf.1 hh hh.lt hg (by omega)] at hf2 ⊢
    exact ⟨he, Duh.r hbl hX hf2 hSb hp hS hd hd2 hb hfr⟩
theorem rsync_duh {X b gd gr c c' : Nat} {l l' : List Fil} {n : ByteArray} {w : World} (h : Duh X b w gd gr l c l' c') (hc : c' ≤ 1000000) (hl : l'.length ≤ 999) (r : Int × List Fil) (hr : sync9 n l' = r) :
    Calls Try.prog 17 #[.pointer (some ⟨gr, 0, none⟩), .string n] w (Dih X b gd gr r.1 l c r.2 (c' + 1) w) := by
  subst hr
  obtain ⟨hbl, hX, hf, S, v, hSb, hp, hS, hd⟩ := h
  refine (rsync_disk X gr v l' c' n w hd (by omega) hc hX).mono ?_
  rintro e w' ⟨h1, h2, hb, hfr⟩
  rcases hix : ixF n l' with _ | k
  · obtain ⟨he, hd2⟩ := h1 hix
    have e1 : sync9 n l' = (13, l') := by unfold sync9; rw [getF_no hix]
    rw [e1]
    exact ⟨he, Duh.r hbl hX hf hSb hp hS hd hd2 hb hfr⟩
  · obtain ⟨hk, hn, hg⟩ := getF_ix hf.1 hix
    obtain ⟨he, hd2⟩ := h2 k hk hix
    have hf2 : Fit9 (sync9 n l').2 := hf.sync
    have e1 : sync9 n l' = (0, l'.set k ⟨l'[k].name, l'[k].b, l'[k].b.length, true⟩) := by
      unfold sync9
      rw [hg]
      show (0, setF _ _) = _
      rw [setF_at hf.1 k hk (by exact hn), hn]
    rw [e1] at hf2 ⊢
    exact ⟨he, Duh.r hbl hX hf2 hSb hp hS hd hd2 hb hfr⟩
/-- a cell of the block that is none of theirs -/
theorem blk_stays {w w' : World} {b : Nat} {cs : Array Value} {t : TypeId} (h : Blk w b cs t) (hs : w'.heap[b]? = w.heap[b]?) : Blk w' b cs t := hs.trans h
theorem cutS_le (s : ByteArray) (k : Nat) : (cutS s k).size ≤ k := by
  unfold cutS
  split
  · rw [ByteArray.size_extract]; omega
  · omega
end Go.Proofs.Ytbdengcblncfmaa
