/-
  The reference's Seal makes a frame as the plain function says, in new memory.
  The bytes are there in memory, at most 1,000,000.
-/
import Derived.Test.YtmpdjioclalifaaDoorReSum
import Derived.Test.YtmpdjioclalifaaDoorRePut
import Derived.Test.YtmpdjioclalifaaDoorWAppend
set_option linter.unusedSimpArgs false
set_option linter.unusedVariables false
namespace Go.Proofs.YtmpdjioclalifaaDoor
open Go.RowKit
set_option maxRecDepth 100000

def fourB (n : Nat) : List UInt8 := [(n / 16777216 % 256).toUInt8, (n / 65536 % 256).toUInt8, (n / 256 % 256).toUInt8, (n % 256).toUInt8]
def headB (kind : Int) (l : List UInt8) : List UInt8 := kind.toNat.toUInt8 :: Nu.put (l.length : Int)
def sealB (kind : Int) (l : List UInt8) : List UInt8 := if kind < 1 ∨ 255 < kind ∨ 4000 < l.length then [] else headB kind l ++ fourB (crcSum (headB kind l ++ l)) ++ l
theorem rsum_is (v : Value) (B : Nat) (l : List UInt8) (n : Nat) (w : World) (h : Byt w B v l) (hl : l.length ≤ 1000000) (hn : crcSum l = n) : Calls Tryd.prog 20 #[v] w (Num32 n w) := by
  obtain ⟨A, c, rfl, _⟩ := id h
  rw [← hn]; exact rsum_any A c B l w h hl
set_option maxRecDepth 100000 in
set_option maxHeartbeats 2000000 in
theorem rseal_any (kind : Int) (u : Value) (B : Nat) (l : List UInt8) (w : World) (h : Byt w B u l) (hB : B ≤ w.heap.size) (hl : l.length ≤ 1000000) : Calls Tryd.prog 12 #[.int .i64 kind, u] w (Made (sealB kind l) w) := by
  obtain ⟨A, c, rfl, hc, hcell⟩ := id h
  have HB := Lib.hid h
  have HC := Lib.hid hcell; clear hcell h
  by_cases hbad : kind < 1 ∨ 255 < kind ∨ 4000 < l.length
  · have hf : sealB kind l = [] := by unfold sealB; rw [if_pos hbad]
    have HF := Lib.hid hf; clear hf
    have hcs : kind < 1 ∨ (1 ≤ kind ∧ 255 < kind) ∨ (1 ≤ kind ∧ kind ≤ 255 ∧ 4000 < (l.length : Int)) := by omega
    clear hbad
    rcases hcs with h1 | ⟨h1, h2⟩ | ⟨h1, h2, h3⟩
    all_goals
      go_enter Tryd.func12, Tryd.ntmps12
      go_wp2
      go_ret
      exact ⟨_, rfl, by rw [HF.out]; exact ownB_nil _ _, Below.refl _ _⟩
  · have hf : sealB kind l = headB kind l ++ fourB (crcSum (headB kind l ++ l)) ++ l := by unfold sealB; rw [if_neg hbad]
    have HF := Lib.hid hf; clear hf
    have g1 : 1 ≤ kind := by omega
    have g2 : kind ≤ 255 := by omega
    have g3 : (l.length : Int) ≤ 4000 := by omega
    have l0 : -9223372036854775808 ≤ (l.length : Int) := by omega
    have l1 : (l.length : Int) ≤ 9223372036854775807 := by omega
    clear hbad
    go_enter Tryd.func12, Tryd.ntmps12
    go_wp2_with fail
    refine (rput_any _ _ l0 l1).mono ?_
    rintro e w1 ⟨v1, rfl, hown1, hb1⟩
    have hpl := Nu.put_len (l.length : Int)
    obtain ⟨hd, hhd⟩ : ∃ hd, headB kind l = hd := ⟨_, rfl⟩
    have hhl : hd.length ≤ 11 := by rw [← hhd]; unfold headB; simp; omega
    have hkb : kind = ((kind.toNat.toUInt8).toNat : Int) := by rw [Nu.u8n _ (by omega)]; omega
    have hownk : OwnB w.heap.size (.slice (some ⟨w.heap.size, 0, none⟩) 1 1) [kind.toNat.toUInt8] (w.alloc (Obj.cells #[.int .u8 kind] 5)) := own_new w _ [kind.toNat.toUInt8] (by unfold Lib.byteCells; simp only [List.map]; rw [← hkb]) (by simp)
    have hbk : Below w.heap.size w (w.alloc (Obj.cells #[.int .u8 kind] 5)) := below_new w _
    have hownk1 := hownk.below hb1
    have hbw1 := hbk.trans (hb1.mono hbk.size)
    have hbyt1 := Byt.of_own hown1
    clear hownk hbk hkb hown1 hb1
    go_wp2_with (at_builtin; refine wpList_append_byt_at rfl _ _ rfl w.heap.size _ _ _ _ _ rfl hownk1 rfl hbyt1 ?x1 hbw1.size ?_)
    case x1 => simp; omega
    intro v2 w2 hown2 hb2 _
    have hown2' : OwnB w.heap.size v2 hd w2 := by rw [← hhd]; exact hown2
    have hbw2 := hbw1.trans hb2
    have hbyt2 := Byt.of_own hown2'
    clear hown2 hbyt1 hownk1 hbw1 hb2
    go_wp2_with (at_builtin; refine wpList_append_byt_at rfl _ _ rfl w.heap.size _ _ _ _ _ rfl (ownB_nil w.heap.size _) rfl hbyt2 ?x2 hbw2.size ?_)
    case x2 => first | omega | (simp; omega)
    intro v3 w3 hown3 hb3 hg3
    have hbw3 := hbw2.trans hb3
    have hkeep2 : OwnB w.heap.size v2 hd w3 := World.ownsRow.kept hown2' hg3.1 (by cases hv : v2.ownBlock <;> simp [Value.ownBlock])
    have hap : v2.ownBlock = none ∨ v2.ownBlock ≠ v3.ownBlock := by
      cases hv : v2.ownBlock with
      | none => exact .inl rfl
      | some k =>
        refine .inr (fun e => ?_)
        have hk := (hown2'.lt k hv).2
        rcases hg3.2 with e3 | e3
        · rw [e3] at e; cases e
        · rw [e3] at e; injection e with e; omega
    have hbu3 := (HB.out.below hbw3 hB)
    clear hown2' hbyt2 hb3 hg3 hbw2
    go_wp2_with (at_builtin; refine wpList_append_byt_at rfl _ _ rfl w.heap.size _ _ _ _ _ rfl hown3 rfl hbu3 ?x3 hbw3.size ?_)
    case x3 => first | omega | (simp only [List.length_append, List.length_cons, List.length_nil]; omega)
    intro v4 w4 hown4 hb4 hg4
    have hbw4 := hbw3.trans hb4
    have hkeep4 : OwnB w.heap.size v2 hd w4 := World.ownsRow.kept hkeep2 hg4.1 hap
    have hbyt4 := Byt.of_own hown4
    have hl4 : ([] ++ hd ++ l).length ≤ 1000000 := by simp; omega
    obtain ⟨n, hn⟩ : ∃ n, crcSum ([] ++ hd ++ l) = n := ⟨_, rfl⟩
    have hn32 : n < 4294967296 := by rw [← hn]; unfold crcSum; omega
    have HN := Lib.hid hn
    clear hkeep2 hap hown3 hbu3 hb4 hg4 hbw3 hown4
    go_wp2_with fail
    refine (rsum_is _ _ _ n _ hbyt4 hl4 HN.out).mono ?_
    rintro e w5 ⟨rfl, rfl⟩
    clear hbyt4 hl4 hn
    have hB5 : w.heap.size ≤ (w4.alloc (Obj.cells #[.int .u8 ((n : Int) / 16777216), .int .u8 ((n : Int) / 65536 % 256), .int .u8 ((n : Int) / 256 % 256), .int .u8 ((n : Int) % 256)] 5)).heap.size := by have := hbw4.size; simp; omega
    go_wp2_with (at_builtin; refine wpList_append_byt_at rfl _ _ rfl w.heap.size _ _ _ _ _ rfl (hkeep4.alloc _) rfl (byt_new4 w4 _ _ _ _ _ (n / 16777216 % 256).toUInt8 (n / 65536 % 256).toUInt8 (n / 256 % 256).toUInt8 (n % 256).toUInt8 ?y1 ?y2 ?y3 ?y4) ?x4 hB5 ?_)
    case y1 => rw [Nu.u8n _ (by omega)]; omega
    case y2 => rw [Nu.u8n _ (by omega)]; omega
    case y3 => rw [Nu.u8n _ (by omega)]; omega
    case y4 => rw [Nu.u8n _ (by omega)]; omega
    case x4 => first | omega | (simp only [List.length_append, List.length_cons, List.length_nil]; omega)
    intro v6 w6 hown6 hb6 _
    have hbw6 := (hbw4.alloc hbw4.size (Obj.cells #[.int .u8 ((n : Int) / 16777216), .int .u8 ((n : Int) / 65536 % 256), .int .u8 ((n : Int) / 256 % 256), .int .u8 ((n : Int) % 256)] 5)).trans hb6
    have hbu6 := (HB.out.below hbw6 hB)
    clear hkeep4 hB5 hb6 hbw4
    go_wp2_with (at_builtin; refine wpList_append_byt_at rfl _ _ rfl w.heap.size _ _ _ _ _ rfl hown6 rfl hbu6 ?x5 hbw6.size ?_)
    case x5 => first | omega | (simp only [List.length_append, List.length_cons, List.length_nil]; omega)
    intro v7 w7 hown7 hb7 _
    have hbw7 := hbw6.trans hb7
    clear hown6 hbu6 hb7 hbw6
    go_wp2
    go_ret
    refine ⟨v7, rfl, ?_, hbw7⟩
    rw [HF.out, hhd, show hd ++ l = [] ++ hd ++ l by simp, HN.out]
    simpa [fourB] using hown7
end Go.Proofs.YtmpdjioclalifaaDoor
