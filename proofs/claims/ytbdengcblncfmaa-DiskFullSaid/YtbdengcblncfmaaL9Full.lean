/-
  A row of zeros that was made; a disk with one file that grows by zeros.
  There are no conditions beyond those that each lemma names.
-/
import Derived.Test.YtbdengcblncfmaaL9One
import Derived.Deep.OwnRows
set_option linter.unusedSimpArgs false
set_option linter.unusedVariables false
namespace Go.Proofs.Ytbdengcblncfmaa
open Go.RowKit
set_option maxRecDepth 100000

theorem made_bytes (n : Nat) : (madeCells (Value.int .u8 0).cells (n * 1)).toList = Lib.byteCells (List.replicate n 0) := by
  unfold Lib.byteCells madeCells
  rw [List.map_replicate]
  apply List.ext_getElem
  · simp
  · intro i h1 h2
    simp [Value.cells, Nat.mod_one]
theorem wp_make9 (w : World) {ops : Array Oper} {rest : List Oper} {o : Oper} {a : Act} {Q : Exit → Act → World → Prop} (hg : o.guard = none) (l c : Operand) (hop : o.op = Op.makeSlice 30 l c) (n : Nat) (L C : Int)
    (hl : a.eval l = .int .i64 L) (hc : a.eval c = .int .i64 C) (hL : L = (n : Int)) (hC : C = (n : Int)) (hn : n ≤ 100000000)
    (hK : ∀ w', OwnB w.heap.size (.slice (some ⟨w.heap.size, 0, none⟩) n n) (List.replicate n 0) w' → Below w.heap.size w w' → wpList Try.prog ops Q rest (a.put o.dst (.slice (some ⟨w.heap.size, 0, none⟩) n n)) w') : wpList Try.prog ops Q (o :: rest) a w := by
  obtain ⟨i, hi, hz0, hz1, hz2⟩ := info_parts Try.infoU8
  refine wpList_make_full w hg l c 30 hop w.heap.size 5 i (.int .u8 0) 1 Try.underlying30 hi hz0 hz1 .i64 .i64 L C n hl hc hL hC (by rw [hz2]; omega) (by unfold maxLen; omega) (Nat.le_refl _) (fun w' h1 h2 => ?_)
  rw [made_bytes] at h1
  refine hK w' ?_ ((Below.refl _ w).grown h2 (Nat.le_refl _) (fun j hj => by cases hj))
  unfold OwnB
  rw [List.length_replicate]
  exact h1
theorem make_zer9 (n : Nat) (hn : n ≤ 100000000) (w : World) : (Instr.makeSlice 30 (.int .i64 (n : Int)) (.int .i64 (n : Int))).run Try.prog w = .ok (.slice (some ⟨w.heap.size, 0, none⟩) n n) (w.alloc (.cells (madeCells #[.int .u8 0] n) 5)) :=
  run_make_row' _ _ _ 1 Try.underlying30 Try.infoU8 rfl .i64 .i64 n (by omega) (by omega) w
theorem own_zer9 (n : Nat) (hn : n ≤ 100000000) (w : World) : OwnB w.heap.size (.slice (some ⟨w.heap.size, 0, none⟩) n n) (List.replicate n 0) (w.alloc (.cells (madeCells #[.int .u8 0] n) 5)) := by
  have e : (madeCells #[.int .u8 0] n).toList = Lib.byteCells (List.replicate n 0) := by have := made_bytes n; rw [Nat.mul_one] at this; exact this
  have e2 : (madeCells #[.int .u8 0] n).size = n := by rw [← Array.length_toList, e]; simp [Lib.byteCells]
  unfold OwnB
  rw [List.length_replicate]
  refine ⟨by simp [Lib.byteCells], .inr ⟨w.heap.size, n, madeCells #[.int .u8 0] n, rfl, Nat.le_refl _, heap_alloc_new _ _, Nat.le_refl _, by unfold maxLen; omega, by rw [e2, Nat.mul_one], ?_⟩⟩
  rw [e, Nat.mul_one, List.take_of_length_le (by simp [Lib.byteCells])]
/-- one file, or none, of so many bytes -/
def Grow9 (l : List Fil) (m k : Nat) : Prop := (l = [] ∧ m = 0 ∧ k = 0) ∨ ∃ bs, l = [⟨nF, bs, 0, false⟩] ∧ bs.length = m
theorem grow_len {l : List Fil} {m k : Nat} (h : Grow9 l m k) : l.length ≤ 1 := by
  rcases h with ⟨rfl, _⟩ | ⟨bs, rfl, _⟩
  · exact Nat.zero_le _
  · exact Nat.le_refl _
theorem grow_no {l : List Fil} {m k z : Nat} (h : Grow9 l m k) (hz : 1048576 < m + z) (bs : List UInt8) (hb : bs.length = z) : app9 nF bs l = (5, l) := by
  have e : (fileOf nF l).b.length = m := by
    rcases h with ⟨rfl, rfl, _⟩ | ⟨b, rfl, hl⟩
    · rfl
    · rw [one_of]; exact hl
  unfold app9
  rw [if_neg (by rw [nF_good]; simp), e, hb, if_pos hz]
theorem grow_yes {l : List Fil} {m k z : Nat} (h : Grow9 l m k) (hz : ¬ 1048576 < m + z) (bs : List UInt8) (hb : bs.length = z) : ∃ l', app9 nF bs l = (0, l') ∧ Grow9 l' (m + z) (k + 1) := by
  have e : (fileOf nF l).b.length = m := by
    rcases h with ⟨rfl, rfl, _⟩ | ⟨b, rfl, hl⟩
    · rfl
    · rw [one_of]; exact hl
  unfold app9
  rw [if_neg (by rw [nF_good]; simp), e, hb, if_neg hz]
  refine ⟨_, rfl, .inr ?_⟩
  rcases h with ⟨rfl, rfl, _⟩ | ⟨b, rfl, hl⟩
  · exact ⟨bs, rfl, by rw [hb]; omega⟩
  · rw [one_of]
    refine ⟨b ++ bs, ?_, by rw [List.length_append, hl, hb]⟩
    unfold setF
    rw [if_pos rfl]
theorem grow_more {l : List Fil} {m k : Nat} (h : Grow9 l m k) (hm : m + 0 = m) (hk : l = [] → False) : Grow9 l m (k + 1) := by
  rcases h with ⟨rfl, _, _⟩ | h
  · exact absurd rfl hk
  · exact .inr h
/-- a disk beside a row g2 that is not its own -/
def DB (B g2 : Nat) (w : World) (g : Nat) (l : List Fil) (c : Nat) : Prop := ∃ S, PD w S g l c ∧ (∀ k, S k → B ≤ k) ∧ ¬ S g2
theorem DB.dk {B g2 g c : Nat} {l : List Fil} {w : World} (h : DB B g2 w g l c) : DK B w g l c := by
  obtain ⟨S, h1, h2, _⟩ := h
  exact ⟨S, h1, h2⟩
theorem DK.db {B g2 g c : Nat} {l : List Fil} {w w' : World} (h : DK B w g l c) (hb : Below w.heap.size w w') (hg : w.heap.size ≤ g2) : DB B g2 w' g l c := by
  obtain ⟨S, h1, h2⟩ := h
  exact ⟨S, h1.below hb, h2, fun hs => by have := h1.lt g2 hs; omega⟩
theorem app_db {B g2 g c n c2 j : Nat} {l : List Fil} {nm : ByteArray} {Z : List UInt8} {w : World} (h : DB B g2 w g l c) (hB : B ≤ w.heap.size) (hn : nm.size ≤ maxLen) (hc : c ≤ 1000000) (hl : l.length ≤ 100000)
    (hz : OwnB g2 (.slice (some ⟨g2, 0, none⟩) n c2) Z w) (hZ : Z.length = n) (hj : j ≤ n) (hn2 : n ≤ 100000000) (r : Int × List Fil) (hr : app9 nm (Z.take j) l = r) :
    Calls Try.prog 14 #[.pointer (some ⟨g, 0, none⟩), .string nm, .slice (some ⟨g2, 0, none⟩) j c2] w fun e w' => e = .returned (.int .i64 r.1) ∧ DB B g2 w' g r.2 (c + 1) ∧ OwnB g2 (.slice (some ⟨g2, 0, none⟩) n c2) Z w' ∧ Below B w w' := by
  subst hr
  obtain ⟨S, h1, h2, h3⟩ := h
  have hs : Safe9 S w (.slice (some ⟨g2, 0, none⟩) j c2) (Z.take j) := fun w' ho => by
    have h4 : OwnB g2 (.slice (some ⟨g2, 0, none⟩) n c2) Z w' := ho.ownsRow hz (fun k hk => by
      have e : g2 = k := Option.some.inj (show some g2 = some k from hk)
      rw [← e]; exact h3)
    exact byt_take9 (by rw [hZ]; exact Byt.of_own h4) (by omega)
  refine (app9_disk S g l c nm _ (Z.take j) w h1 hn hc hl hs (by rw [List.length_take]; omega)).mono ?_
  rintro e w' ⟨h5, h6, h7⟩
  have hlt := hz.lt g2 rfl
  refine ⟨h5, ⟨_, h6, fun k hk => ?_, fun hk => ?_⟩, h7.ownsRow hz (fun k hk => ?_), h7.below h2 hB⟩
  · rcases hk with hk | hk
    · exact h2 k hk
    · omega
  · rcases hk with hk | hk
    · exact h3 hk
    · omega
  · have e : g2 = k := Option.some.inj (show some g2 = some k from hk)
    rw [← e]; exact h3
theorem DB.below {B g2 g c : Nat} {l : List Fil} {w w' : World} (h : DB B g2 w g l c) (hb : Below w.heap.size w w') : DB B g2 w' g l c := by
  obtain ⟨S, h1, h2, h3⟩ := h
  exact ⟨S, h1.below hb, h2, h3⟩
/-- Swap of a row that came behind the disk -/
theorem swap_new {B g c : Nat} {l : List Fil} {n : ByteArray} {u : Value} {bs : List UInt8} {w0 w : World} (h : DK B w0 g l c) (hb : Below w0.heap.size w0 w) (hB : B ≤ w0.heap.size) (hn : n.size ≤ maxLen) (hc : c ≤ 1000000) (hl : l.length ≤ 100000) (hu : OwnB w0.heap.size u bs w) (hbl : bs.length ≤ 140737486258176) (r : Int × List Fil) (hr : swap9 n bs l = r) :
    Calls Try.prog 18 #[.pointer (some ⟨g, 0, none⟩), .string n, u] w fun e w' => e = .returned (.int .i64 r.1) ∧ DK B w' g r.2 (c + 1) ∧ Below B w w' := by
  subst hr
  obtain ⟨S, h1, h2⟩ := h
  refine (swap9_disk S g l c n u bs w (h1.below hb) hn hc hl (Safe9.of_own hu (fun k hk hS => ?_)) (by omega)).mono ?_
  · have e1 := h1.lt k hS
    have e2 := (hu.lt k hk).1
    omega
  · intro e w' h
    exact did_dk h2 (Nat.le_trans hB hb.size) h
end Go.Proofs.Ytbdengcblncfmaa
