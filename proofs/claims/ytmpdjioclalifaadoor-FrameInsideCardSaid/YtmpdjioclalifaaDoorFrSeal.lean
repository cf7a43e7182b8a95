/-
  Package frame's Seal makes a frame as the plain function says, in new memory.
  The bytes are there in memory, at most 1,000,000; package crc's table lies as it was laid.
-/
import Derived.Test.YtmpdjioclalifaaDoorFrPlain
import Derived.Test.YtmpdjioclalifaaDoorCrcMore
import Derived.Test.YtmpdjioclalifaaDoorNuPut
import Derived.Test.YtmpdjioclalifaaDoorNuFour
import Derived.Test.YtmpdjioclalifaaDoorLawKit
set_option linter.unusedSimpArgs false
set_option linter.unusedVariables false
namespace Go.Proofs.YtmpdjioclalifaaDoor
open Go.RowKit
set_option maxRecDepth 100000

theorem tbl_keep {w w' : World} (h : Tbl w) (hb : Below w.heap.size w w') : Tbl w' := fun k hk =>
  (hb.cell (p := ⟨0, k, none⟩) (cell_lt (h k hk))).trans (h k hk)
theorem byt_slice {w : World} {B : Nat} {v : Value} {l : List UInt8} (h : Byt w B v l) : ∃ A c, v = .slice A l.length c := by obtain ⟨A, c, hv, _⟩ := h; exact ⟨A, c, hv⟩
theorem fsum_any (u v : Value) (B C : Nat) (h l : List UInt8) (n : Nat) (w : World) (hu : Byt w B u h) (hv : Byt w C v l) (hT : Tbl w) (hh : h.length ≤ 1000000) (hl : l.length ≤ 1000000) (hn : crcSum (h ++ l) = n) :
    Calls Tryd.prog 18 #[u, v] w (Made (fourB n) w) := by
  obtain ⟨A1, c1, rfl⟩ := byt_slice hu
  obtain ⟨A2, c2, rfl⟩ := byt_slice hv
  have hlt := crcSum_lt h
  have hlt2 : n < 4294967296 := by rw [← hn]; exact crcSum_lt _
  have hm : crcMore (crcSum h) l = n := by rw [crcMore_append]; exact hn
  obtain ⟨s, hs⟩ : ∃ s, crcSum h = s := ⟨_, rfl⟩
  have HS := Lib.hid hs
  rw [hs] at hm hlt
  have HM := Lib.hid hm
  clear hs hm hn
  go_enter Tryd.func18, Tryd.ntmps18
  go_wp2_with fail
  refine (csum_any A1 c1 B h w hu hT hh).mono ?_
  rintro e w1 ⟨rfl, rfl⟩
  rw [HS.out]
  go_wp2_with fail
  refine (cmore_any A2 c2 C s l w hv hT hlt hl).mono ?_
  rintro e w1 ⟨rfl, rfl⟩
  rw [HM.out]
  go_wp2_with fail
  refine (nfour_any n w hlt2).mono ?_
  rintro e w1 ⟨v1, rfl, ho, hb⟩
  go_wp2
  go_ret
  exact ⟨v1, rfl, ho, hb⟩
set_option maxHeartbeats 1000000 in
theorem fseal_any (kind : Int) (u : Value) (B : Nat) (l : List UInt8) (w : World) (h : Byt w B u l) (hB : B ≤ w.heap.size) (hl : l.length ≤ 1000000) (hT : Tbl w) :
    Calls Tryd.prog 11 #[.int .i64 kind, u] w (Made (sealB kind l) w) := by
  obtain ⟨A, c, rfl⟩ := byt_slice h
  have HB := Lib.hid h; clear h
  have HT := Lib.hid hT; clear hT
  by_cases hbad : kind < 1 ∨ 255 < kind ∨ 4000 < l.length
  · have HF := Lib.hid (sealB_no kind l hbad)
    have hcs : kind < 1 ∨ (1 ≤ kind ∧ 255 < kind) ∨ (1 ≤ kind ∧ kind ≤ 255 ∧ 4000 < (l.length : Int)) := by omega
    clear hbad
    rcases hcs with h1 | ⟨h1, h2⟩ | ⟨h1, h2, h3⟩
    all_goals
      go_enter Tryd.func11, Tryd.ntmps11
      go_wp2
      go_ret
      exact ⟨_, rfl, by rw [HF.out]; exact ownB_nil _ _, Below.refl _ _⟩
  · have g1 : 1 ≤ kind := by omega
    have g2 : kind ≤ 255 := by omega
    have g3 : (l.length : Int) ≤ 4000 := by omega
    have hf := sealB_is kind l g1 g2 (by omega)
    obtain ⟨P, hP⟩ : ∃ P, Nu.put ((l.length : Nat) : Int) = P := ⟨_, rfl⟩
    have hPl : P.length ≤ 10 := by rw [← hP]; exact Nu.put_len _
    obtain ⟨x, hx⟩ : ∃ x, kind.toNat.toUInt8 = x := ⟨_, rfl⟩
    have hkx : kind = (x.toNat : Int) := by rw [← hx, Nu.u8n _ (by omega)]; omega
    rw [hx, hP] at hf
    obtain ⟨n, hn⟩ : ∃ n, crcSum (x :: P ++ l) = n := ⟨_, rfl⟩
    rw [hn] at hf
    have HF := Lib.hid hf; have HN := Lib.hid hn; have HP := Lib.hid hP
    have hwk : IntKind.u8.wrap kind = kind := by rw [IntKind.wrap_u8]; omega
    have l0 : -9223372036854775808 ≤ (l.length : Int) := by omega
    have l1 : (l.length : Int) ≤ 9223372036854775807 := by omega
    clear hbad hf hn hP hx
    go_enter Tryd.func11, Tryd.ntmps11
    have hbyk := byt_new1 w 5 (x.toNat : Int) x rfl
    have hbk : Below w.heap.size w (w.alloc (Obj.cells #[.int .u8 (x.toNat : Int)] 5)) := below_new w _
    have hzk : (w.alloc (Obj.cells #[.int .u8 (x.toNat : Int)] 5)).heap.size = w.heap.size + 1 := by simp
    go_wp2_with fail
    refine (nput_any _ _ [x] _ _ hbyk (by simp) (by omega) l0 l1).mono ?_
    rintro e w1 ⟨v1, rfl, ho1, hb1⟩
    rw [hzk] at ho1 hb1
    rw [HP.out] at ho1
    have hown1 : OwnB w.heap.size v1 (x :: P) w1 := ho1.down (Nat.le_succ _)
    have hbw1 := hbk.trans (hb1.mono (Nat.le_succ _))
    have hT1 := tbl_keep HT.out hbw1
    clear ho1 hb1 hbk hzk hbyk
    go_wp2_with fail
    refine (fsum_any _ _ _ _ (x :: P) l n _ (Byt.of_own hown1) (HB.out.below hbw1 hB) hT1 (by simp; omega) hl HN.out).mono ?_
    rintro e w2 ⟨v2, rfl, ho2, hb2⟩
    have hown2 := hown1.below hb2
    have hbw2 := hbw1.trans (hb2.mono hbw1.size)
    have hby2 := Byt.of_own ho2
    clear ho2 hb2 hown1 hbw1 hT1
    go_wp2_with (at_builtin; refine wpList_append_byt_at rfl _ _ rfl w.heap.size _ _ _ _ _ rfl hown2 rfl hby2 ?x1 hbw2.size ?_)
    case x1 => first | omega | (simp [fourB_len]; omega)
    intro v3 w3 hown3 hb3 _
    have hbw3 := hbw2.trans hb3
    have hbu3 := HB.out.below hbw3 hB
    clear hown2 hby2 hb3 hbw2
    go_wp2_with (at_builtin; refine wpList_append_byt_at rfl _ _ rfl w.heap.size _ _ _ _ _ rfl hown3 rfl hbu3 ?x2 hbw3.size ?_)
    case x2 => first | omega | (simp [fourB_len]; omega)
    intro v4 w4 hown4 hb4 _
    have hbw4 := hbw3.trans hb4
    clear hown3 hbu3 hb4
    go_wp2
    go_ret
    refine ⟨v4, rfl, ?_, hbw4⟩
    rw [HF.out]
    simpa using hown4
theorem fseal_is (kind : Int) (u : Value) (B : Nat) (l m : List UInt8) (w : World) (h : Byt w B u l) (hB : B ≤ w.heap.size) (hl : l.length ≤ 1000000) (hT : Tbl w) (hm : sealB kind l = m) : Calls Tryd.prog 11 #[.int .i64 kind, u] w (Made m w) := by
  rw [← hm]; exact fseal_any kind u B l w h hB hl hT
end Go.Proofs.YtmpdjioclalifaaDoor
