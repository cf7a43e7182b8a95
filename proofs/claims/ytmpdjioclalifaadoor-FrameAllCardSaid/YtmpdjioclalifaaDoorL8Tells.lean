/-
  Stage 8's 'tells': Open of package frame and of the reference tell the same of any bytes.
  The bytes are there in memory, at most 1,000,000; package crc's table lies as it was laid.
-/
import Derived.Test.YtmpdjioclalifaaDoorFrAll
import Derived.Test.YtmpdjioclalifaaDoorReOpen
import Derived.Test.YtmpdjioclalifaaDoorL8Set
set_option linter.unusedSimpArgs false
set_option linter.unusedVariables false
namespace Go.Proofs.YtmpdjioclalifaaDoor
open Go.RowKit
set_option maxRecDepth 100000

theorem ropen_is (v : Value) (B : Nat) (l : List UInt8) (r : Nat × List UInt8 × Nat × Nat) (w : World) (h : Byt w B v l) (hB : B ≤ w.heap.size) (hl : l.length ≤ 1000000) (hr : openB l = r) : Calls Tryd.prog 16 #[v] w (GotF B r w) := by
  obtain ⟨A, c, rfl⟩ := byt_slice h
  rw [← hr]
  exact ropen_any A c B l w h hB hl
theorem fopen_byt (v : Value) (B : Nat) (l : List UInt8) (r : Nat × List UInt8 × Nat × Nat) (w : World) (h : Byt w B v l) (hB : B ≤ w.heap.size) (hl : l.length ≤ 1000000) (hT : Tbl w) (hr : openB l = r) : Calls Tryd.prog 13 #[v] w (GotO r w) := by
  obtain ⟨A, c, rfl⟩ := byt_slice h
  exact fopen_is A _ c B l r w h hB hl hT hr
set_option maxHeartbeats 1000000 in
theorem tells8_any (v : Value) (B : Nat) (l : List UInt8) (w : World) (h : Byt w B v l) (hB : B ≤ w.heap.size) (hl : l.length ≤ 1000000) (hT : Tbl w) :
    Calls Tryd.prog 14 #[v] w fun e w' => e = .returned (.bool true) ∧ Below w.heap.size w w' := by
  obtain ⟨A, c, hv⟩ := byt_slice h
  have HB := Lib.hid h; have HT := Lib.hid hT; clear h hT
  obtain ⟨r, hr⟩ : ∃ r, openB l = r := ⟨_, rfl⟩
  obtain ⟨k, b, n, e⟩ := r
  have HR := Lib.hid hr; clear hr
  subst hv
  go_enter Tryd.func14, Tryd.ntmps14
  go_wp2_with fail
  refine (fopen_byt _ B l (k, b, n, e) w HB.out hB hl HT.out HR.out).mono ?_
  rintro e' w1 ⟨v1, rfl, ho1, hb1⟩
  have HB1 := Lib.hid (HB.out.below hb1 hB)
  have HO1 := Lib.hid ho1
  have hB1 := Nat.le_trans hB hb1.size
  clear ho1 HB HT
  go_wp2_with fail
  refine (ropen_is _ B l (k, b, n, e) w1 HB1.out hB1 hl HR.out).mono ?_
  rintro e' w2 ⟨v2, rfl, hy2, hb2⟩
  obtain ⟨S, hS⟩ : ∃ S, (⟨b.toArray⟩ : ByteArray) = S := ⟨_, rfl⟩
  have hb : Below w.heap.size w w2 := hb1.trans (hb2.mono hb1.size)
  have m1 := conv_byt (Byt.of_own (HO1.out.below hb2)) hS
  have m2 := conv_byt hy2 hS
  clear hy2 hb2 hb1 HO1 hS
  go_wp2
  go_ret
  exact ⟨rfl, hb⟩
theorem own_head {B n c : Nat} {A : Option Addr} {l : List UInt8} {w : World} (h : OwnB B (.slice A n c) l w) (hl : 1 ≤ l.length) : ∃ g, A = some ⟨g, 0, none⟩ ∧ B ≤ g ∧ g < w.heap.size ∧ ∀ j, w.frozen? ⟨g, j, none⟩ = false := by
  obtain ⟨g, c', hv, hg, hf, _⟩ := own_cells h hl
  injection hv with e1 _ _
  subst e1
  exact ⟨g, rfl, (h.lt g rfl).1, hg, hf⟩
end Go.Proofs.YtmpdjioclalifaaDoor
