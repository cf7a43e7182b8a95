/-
  Keys stand in the order of their runes, whatever order they came in; two documents with the same are the same, byte for byte. There are no conditions.
-/
import Derived.Test.YtkgfbfopopmbhaaRows
import Derived.Test.YtkgfbfopopmbhaaL6Box
import Derived.Test.YtkgfbfopopmbhaaL6Open
import Derived.Test.YtkgfbfopopmbhaaL6Order
import Derived.Test.YtkgfbfopopmbhaaLawKit
import Derived.Test.YtkgfbfopopmbhaaL4Tells
import Derived.WalkKit
import Derived.ProofKit
import Derived.OpenShut
import Derived.ShutString
set_option linter.unusedSimpArgs false
set_option linter.unusedVariables false
namespace Go.Proofs.Ytkgfbfopopmbhaa.docOrder
open Go.ChangeShapes Go.WideShapes Go.ChangeAt Go.RowKit
open Go.ChangeMaps (open_string shut_string)
set_option linter.unusedVariables false

theorem own : ownKnob Try.prog.godebug = none := by kernel_rfl

set_option maxRecDepth 100000 in
set_option maxHeartbeats 8000000 in
theorem walk (w : World) (A0 : Option Addr) (c0 : Nat) (a0 : List ByteArray) (w0 : Strs w w.heap.size (.slice A0 a0.length c0) a0) (x0 : ∀ x ∈ a0, x.size ≤ maxLen) (a1 : Int) (w1 : (Lit.int .i64 a1).wf = true) :
    Calls Try.prog 9 #[.slice A0 a0.length c0, .int .i64 a1] w fun e w' => e = .returned (.bool true) ∧ Below w.heap.size w w' := by
  have HA := Lib.hid w0; clear w0
  have HF := Lib.hid x0; clear x0
  have hn1 := wf_i64 w1
  have hb := Below.refl w.heap.size w
  go_enter Try.func9, Try.ntmps9
  go_wp2_with fail
  refine (begun6_any _).mono ?_
  rintro e k1 ⟨rfl, h⟩
  have hk : Below w.heap.size w k1 := HK9 h
  have hz := h.size
  try simp at hz
  replace hb : Below w.heap.size w k1 := hb.trans (hk.mono hb.size)
  clear h hk
  go_wp2_with fail
  go_loopw [6, 7] (fun v i wr => ∃ (k : Nat) (ks : List ByteArray), i = .int .i64 k ∧ k ≤ a0.length ∧ k ≤ 20 ∧ ks.length ≤ k ∧ OwnS w.heap.size v ks wr ∧ (∀ x ∈ ks, Ru.key x.data.toList = true ∧ x.size ≤ 40) ∧ Below w.heap.size w wr) (fun _ i _ => a0.length - (intOf i).toNat)
  case atStart => exact ⟨0, [], rfl, Nat.zero_le _, by omega, Nat.le_refl _, World.ownsRow_nil _ _ _ _, (fun x hx => by cases hx), (BB9 hb)⟩
  case round =>
    clear hb
    obtain ⟨k, ks, rfl, hk, hk20, hks, ho, hall, hb⟩ := hrel
    by_cases hkn : k < a0.length ∧ k < 20
    · obtain ⟨hkl, hk30⟩ := hkn
      obtain ⟨gs, os, rfl, hgs, hcell⟩ := HA.out.at_ k hkl
      have hsz := HF.out a0[k] (List.getElem_mem ..)
      obtain ⟨x, hx⟩ : ∃ x, a0[k] = x := ⟨_, rfl⟩
      rw [hx] at hcell hsz
      clear hx
      have hki : (k : Int) < (a0.length : Int) := by omega
      have hki3 : (k : Int) < 20 := by omega
      have c0 := (hb.cell (p := ⟨gs, os + k, none⟩) hgs).trans hcell
      have HO9 := Lib.hid ho; clear ho hcell
      have HALL := Lib.hid hall; clear hall
      by_cases h40 : 40 < x.size
      · obtain ⟨s, hs⟩ : ∃ s, x.extract 0 40 = s := ⟨_, rfl⟩
        have hss : s.size ≤ 40 := by rw [← hs, ByteArray.size_extract]; omega
        have h4i : (40 : Int) < (x.size : Int) := by omega
        obtain ⟨y, hy⟩ : ∃ y, Ru.key s.data.toList = y := ⟨_, rfl⟩
        have HY := Lib.hid hy; clear hy
        go_wp2_with fail
        refine (rkey_is s y _ (by omega) HY.out).mono ?_
        rintro e k21 ⟨rfl, h⟩
        have hk : Below wr.heap.size wr k21 := HK9 h
        have hz := h.size
        try simp at hz
        replace HO9 := Lib.hid (ownsRow_below HO9.out hk)
        replace hb : Below w.heap.size w k21 := hb.trans (hk.mono hb.size)
        clear h hk
        cases y
        · go_wp2
          go_roundw
          case rel => exact ⟨k + 1, ks, by go_num, by omega, by omega, by omega, HO9.out, HALL.out, hb⟩
          case measure => simp [intOf]; omega
        · obtain ⟨Av, cv, hv9⟩ := own_slice HO9.out
          subst hv9
          go_wp2_with (at_builtin; refine wpList_append_str rfl _ _ rfl w.heap.size _ ks s k21.heap.size rfl (World.ownsRow.alloc HO9.out _) rfl (by go_simp) (by omega) (by have := hb.size; simp; omega) ?_)
          intro v1 w1 ho1 hk1
          have hb1 : Below w.heap.size w w1 := (hb.alloc hb.size _).trans hk1
          have HO1 := Lib.hid ho1; clear ho1 hk1
          have hall1 : ∀ z ∈ ks ++ [s], Ru.key z.data.toList = true ∧ z.size ≤ 40 := fun z hz => by
            rcases List.mem_append.1 hz with h | h
            · exact HALL.out z h
            · rw [List.mem_singleton.1 h]; exact ⟨HY.out, hss⟩
          have HALL1 := Lib.hid hall1; clear hall1
          go_wp2
          go_roundw
          case rel => exact ⟨k + 1, _, by go_num, by omega, by omega, by rw [List.length_append]; simp; omega, HO1.out, HALL1.out, hb1⟩
          case measure => simp [intOf]; omega
      · have hss : x.size ≤ 40 := by omega
        have h4i : ¬ (40 : Int) < (x.size : Int) := by omega
        obtain ⟨y, hy⟩ : ∃ y, Ru.key x.data.toList = y := ⟨_, rfl⟩
        have HY := Lib.hid hy; clear hy
        go_wp2_with fail
        refine (rkey_is x y _ (by omega) HY.out).mono ?_
        rintro e k21 ⟨rfl, h⟩
        have hk : Below wr.heap.size wr k21 := HK9 h
        have hz := h.size
        try simp at hz
        replace HO9 := Lib.hid (ownsRow_below HO9.out hk)
        replace hb : Below w.heap.size w k21 := hb.trans (hk.mono hb.size)
        clear h hk
        cases y
        · go_wp2
          go_roundw
          case rel => exact ⟨k + 1, ks, by go_num, by omega, by omega, by omega, HO9.out, HALL.out, hb⟩
          case measure => simp [intOf]; omega
        · obtain ⟨Av, cv, hv9⟩ := own_slice HO9.out
          subst hv9
          go_wp2_with (at_builtin; refine wpList_append_str rfl _ _ rfl w.heap.size _ ks x k21.heap.size rfl (World.ownsRow.alloc HO9.out _) rfl (by go_simp) (by omega) (by have := hb.size; simp; omega) ?_)
          intro v1 w1 ho1 hk1
          have hb1 : Below w.heap.size w w1 := (hb.alloc hb.size _).trans hk1
          have HO1 := Lib.hid ho1; clear ho1 hk1
          have hall1 : ∀ z ∈ ks ++ [x], Ru.key z.data.toList = true ∧ z.size ≤ 40 := fun z hz => by
            rcases List.mem_append.1 hz with h | h
            · exact HALL.out z h
            · rw [List.mem_singleton.1 h]; exact ⟨HY.out, hss⟩
          have HALL1 := Lib.hid hall1; clear hall1
          go_wp2
          go_roundw
          case rel => exact ⟨k + 1, _, by go_num, by omega, by omega, by rw [List.length_append]; simp; omega, HO1.out, HALL1.out, hb1⟩
          case measure => simp [intOf]; omega
    · obtain ⟨l, hl⟩ : ∃ l, ks = l := ⟨_, rfl⟩
      subst hl
      obtain ⟨Al, cl, hv9⟩ := own_slice ho
      subst hv9
      have hl20 : ks.length ≤ 20 := by omega
      have HL := Lib.hid ho; clear ho
      have HALL := Lib.hid hall; clear hall
      have h2 : ¬ k < a0.length ∨ (k < a0.length ∧ ¬ k < 20) := by omega
      clear hkn
      rcases h2 with h2 | ⟨h2, h3⟩
      all_goals
        by_cases h0 : ks.length = 0 ∨ a1 < 0
        · have h4 : ks.length = 0 ∨ (¬ ks.length = 0 ∧ a1 < 0) := by omega
          rcases h4 with h4 | ⟨h4, h5⟩
          · have h6 : ((ks.length : Int) == 0) = true := by simp [h4]
            have h7 : (ks.length : Int) = 0 := by omega
            go_wp2
            go_ret
            exact ⟨rfl, hb⟩
          · have h6 : ((ks.length : Int) == 0) = false := by rw [beq_eq_false_iff_ne]; omega
            have h7 : ¬ (ks.length : Int) = 0 := by omega
            go_wp2
            go_ret
            exact ⟨rfl, hb⟩
        · have h6 : ((ks.length : Int) == 0) = false := by rw [beq_eq_false_iff_ne]; omega
          have h7 : ¬ (ks.length : Int) = 0 := by omega
          have h8 : ¬ a1 < 0 := by omega
          have hk1 : 1 ≤ ks.length := by omega
          have hat0 : 0 ≤ a1 := by omega
          obtain ⟨s, hs, hsl⟩ := rem_nat a1 ks.length hat0 hk1
          go_wp2_with fail
          refine (lnew_is w.heap.size _ (by have := hb.size; first | omega | exact Nat.le_refl _ | (simp; omega))).mono ?_
          rintro e k21 ⟨rfl, hd9, h⟩
          have hk : Below wr.heap.size wr k21 := HK9 h
          have hz := h.size
          try simp at hz
          replace HL := Lib.hid (ownsRow_below HL.out hk)
          replace hb : Below w.heap.size w k21 := hb.trans (hk.mono hb.size)
          clear h hk
          have HDA := Lib.hid hd9; clear hd9
          have hltHDA : wr.heap.size < k21.heap.size := HDA.out.lt
          obtain ⟨GA, hGA⟩ : ∃ G, wr.heap.size = G := ⟨_, rfl⟩
          rw [hGA] at HDA hltHDA ⊢
          go_wp2_with fail
          refine (lnew_is w.heap.size _ (by have := hb.size; first | omega | exact Nat.le_refl _ | (simp; omega))).mono ?_
          rintro e k22 ⟨rfl, hd9, h⟩
          have hk : Below k21.heap.size k21 k22 := HK9 h
          have hz := h.size
          try simp at hz
          replace HL := Lib.hid (ownsRow_below HL.out hk)
          replace HDA := Lib.hid (Dc.below HDA.out hk)
          replace hb : Below w.heap.size w k22 := hb.trans (hk.mono hb.size)
          clear h hk
          have HDB := Lib.hid hd9; clear hd9
          have hltHDB : k21.heap.size < k22.heap.size := HDB.out.lt
          go_wp2_with fail
          go_loopw [11] (fun i wr => ∃ k : Nat, i = .int .i64 k ∧ k ≤ ks.length ∧ Dc wr w.heap.size (GA) (insK (ks.take k)) ∧ Dc wr w.heap.size (k21.heap.size) (insK ((rotK ks s).take k)) ∧ OwnS w.heap.size (.slice Al ks.length cl) ks wr ∧ Below w.heap.size w wr) (fun i _ => ks.length - (intOf i).toNat)
          case atStart => exact ⟨0, rfl, Nat.zero_le _, (Dc.below HDA.out BL9), (Dc.below HDB.out BL9), (ownsRow_below HL.out BL9), (BB9 hb)⟩
          case round =>
            have hab9 : GA < k21.heap.size := by omega
            clear hb HDA HDB HL
            obtain ⟨k, rfl, hk, hda, hdb, ho, hb⟩ := hrel
            have HDA := Lib.hid hda; clear hda
            have HDB := Lib.hid hdb; clear hdb
            have HL := Lib.hid ho; clear ho
            by_cases hkn : k < ks.length
            · obtain ⟨gl, rfl⟩ := row_some HL.out (by omega)
              obtain ⟨j, hj⟩ : ∃ j, (k + s) % ks.length = j := ⟨_, rfl⟩
              have hjn : j < ks.length := by rw [← hj]; exact Nat.mod_lt _ (by omega)
              have hm2 : Int.tmod ((k : Int) + (s : Int)) (ks.length : Int) = (j : Int) := by rw [← hj]; rfl
              have r1 := take_snoc hkn
              have r2 := take_snoc (l := rotK ks s) (k := k) (by rw [rotK_len]; exact hkn)
              have r3 := rotK_at ks s k hkn (by rw [hj]; exact hjn)
              have r4 : ks[(k + s) % ks.length]'(by rw [hj]; exact hjn) = ks[j] := by congr 1
              rw [r3, r4] at r2
              have hy1 := HALL.out ks[k] (List.getElem_mem ..)
              have hy2 := HALL.out ks[j] (List.getElem_mem ..)
              have c0 := OwnS.cellAt (ks := ks) HL.out k hkn
              obtain ⟨y, hy⟩ : ∃ y, ks[k] = y := ⟨_, rfl⟩
              obtain ⟨z, hz⟩ : ∃ z, ks[j] = z := ⟨_, rfl⟩
              rw [hy] at r1 hy1 c0
              rw [hz] at r2 hy2
              have K1 := insK_put (ks := ks.take k) hy1.1 (by rw [List.length_take]; omega)
              rw [r1] at K1
              have K2 := insK_put (ks := (rotK ks s).take k) hy2.1 (by rw [List.length_take, rotK_len]; omega)
              rw [r2] at K2
              have H1 := Lib.hid K1; clear K1
              have H2 := Lib.hid K2; clear K2
              have HZ := Lib.hid hz; clear hz
              have o1 : (putO y 1).ok := putO_ok (by omega) ⟨by decide, by decide⟩
              have o2 : (putO z 1).ok := putO_ok (by omega) ⟨by decide, by decide⟩
              have O1 := Lib.hid o1; clear o1
              have O2 := Lib.hid o2; clear o2
              clear r1 r2 r3 r4 hy hj
              have hki : (k : Int) < (ks.length : Int) := by omega
              have hji : (j : Int) < (ks.length : Int) := by omega
              go_wp2_with fail
              refine calls_world (fun W => Ops W (wr.heap.size + 1) (.slice (some ⟨wr.heap.size, 0, none⟩) 1 1) [putO y 1] ∧ Below (wr.heap.size) wr W ∧ wr.heap.size + 1 ≤ W.heap.size) ⟨(ops_new _ _ [putO y 1] (by simp)), BL9, LT9⟩ ?_
              rintro k51 ⟨hop, hk, hz⟩
              replace HDA := Lib.hid (Dc.below HDA.out hk)
              replace HDB := Lib.hid (Dc.below HDB.out hk)
              replace HL := Lib.hid (ownsRow_below HL.out hk)
              replace hb : Below w.heap.size w k51 := hb.trans (hk.mono (by first | exact hb.size | omega | (simp; omega)))
              clear hk
              have HOP := Lib.hid hop; clear hop
              refine (lapply_is w.heap.size _ _ _ _ _ _ 0 _ HDA.out HOP.out (by omega) (fun o ho => by rw [List.mem_singleton.1 ho]; exact O1.out) H1.out).mono ?_
              rintro e k52 ⟨rfl, hd9, hgr⟩
              have hz9 := hgr.size
              have hbe : Below k51.heap.size k51 _ := Below.refl _ _
              clear hbe
              try simp at hz9
              replace hb : Below w.heap.size w k52 := Dc.frame (w0 := w) (hb := hgr) (h := Dc.below HDA.out BL9) (h0 := (BB9 hb)) (hB := by have := hb.size; first | omega | (simp; omega))
              replace HDB := Lib.hid (Dc.grown (hb := hgr) (h := Dc.below HDB.out BL9) (h2 := Dc.below HDA.out BL9) (hne := (by omega)))
              replace HL := Lib.hid (ownsRow_grown (hb := hgr) (h := ownsRow_below HL.out BL9) (hd := Dc.below HDA.out BL9) (hne := by decide))
              replace HDA := Lib.hid hd9
              clear hd9
              clear hgr
              clear HOP
              clear c0
              have c1 := OwnS.cellAt (ks := ks) HL.out j hjn
              rw [HZ.out] at c1
              go_wp2_with fail
              refine calls_world (fun W => Ops W (k52.heap.size + 1) (.slice (some ⟨k52.heap.size, 0, none⟩) 1 1) [putO z 1] ∧ Below (k52.heap.size) k52 W ∧ k52.heap.size + 1 ≤ W.heap.size) ⟨(ops_new _ _ [putO z 1] (by simp)), BL9, LT9⟩ ?_
              rintro k53 ⟨hop, hk, hz⟩
              replace HDA := Lib.hid (Dc.below HDA.out hk)
              replace HDB := Lib.hid (Dc.below HDB.out hk)
              replace HL := Lib.hid (ownsRow_below HL.out hk)
              replace hb : Below w.heap.size w k53 := hb.trans (hk.mono (by first | exact hb.size | omega | (simp; omega)))
              clear hk
              have HOP := Lib.hid hop; clear hop
              refine (lapply_is w.heap.size _ _ _ _ _ _ 0 _ HDB.out HOP.out (by omega) (fun o ho => by rw [List.mem_singleton.1 ho]; exact O2.out) H2.out).mono ?_
              rintro e k54 ⟨rfl, hd9, hgr⟩
              have hz9 := hgr.size
              have hbe : Below k53.heap.size k53 _ := Below.refl _ _
              clear hbe
              try simp at hz9
              replace hb : Below w.heap.size w k54 := Dc.frame (w0 := w) (hb := hgr) (h := Dc.below HDB.out BL9) (h0 := (BB9 hb)) (hB := by have := hb.size; first | omega | (simp; omega))
              replace HDA := Lib.hid (Dc.grown (hb := hgr) (h := Dc.below HDA.out BL9) (h2 := Dc.below HDB.out BL9) (hne := (by omega)))
              replace HL := Lib.hid (ownsRow_grown (hb := hgr) (h := ownsRow_below HL.out BL9) (hd := Dc.below HDB.out BL9) (hne := by decide))
              replace HDB := Lib.hid hd9
              clear hd9
              clear hgr
              clear HOP
              clear c1
              go_wp2
              go_roundw
              case rel => exact ⟨k + 1, by go_num, by omega, HDA.out, HDB.out, HL.out, hb⟩
              case measure => simp [intOf]; omega
            · have hkn2 : k = ks.length := by omega
              subst hkn2
              have e1 : ks.take ks.length = ks := List.take_length
              have e2 : (rotK ks s).take ks.length = rotK ks s := List.take_of_length_le (by rw [rotK_len]; exact Nat.le_refl _)
              rw [e1] at HDA
              rw [e2, insK_rot ks s hsl] at HDB
              obtain ⟨D, hD⟩ : ∃ D, insK ks = D := ⟨_, rfl⟩
              rw [hD] at HDA HDB
              clear hD e1 e2
              have hgD := HDA.out.1
              obtain ⟨N, hN⟩ : ∃ N, D.length = N := ⟨_, rfl⟩
              have hN50 : N ≤ 50 := by rw [← hN]; exact hgD.len
              have HN := Lib.hid hN; clear hN
              have hwr := hb.size
              clear HL
              go_wp2_with fail
              refine (lkeys_is w.heap.size _ N D _ (Dc.below HDA.out BL9) HN.out).mono ?_
              rintro e k51 ⟨gk, rfl, hK, h⟩
              have hk : Below wr.heap.size wr k51 := HK9 h
              have hz := h.size
              try simp at hz
              replace HDA := Lib.hid (Dc.below HDA.out hk)
              replace HDB := Lib.hid (Dc.below HDB.out hk)
              replace hb : Below w.heap.size w k51 := hb.trans (hk.mono hb.size)
              have HK := Lib.hid hK; clear hK
              clear h hk
              go_wp2_with fail
              go_loopw [13] (fun i wr => ∃ j : Nat, i = .int .i64 ((j : Int) + 1) ∧ j ≤ N ∧ Dc wr w.heap.size (GA) D ∧ Dc wr w.heap.size (k21.heap.size) D ∧ wr.ownsRow 0 9 1 (.slice (some ⟨gk, 0, none⟩) N N) N ((D.map Par.k).map .string) ∧ Below w.heap.size w wr) (fun i _ => N - (intOf i).toNat)
              case atStart => exact ⟨0, rfl, Nat.zero_le _, (Dc.below HDA.out BL9), (Dc.below HDB.out BL9), (by have h9 := (ownsRow_below HK.out BL9); unfold OwnS at h9; rw [List.length_map, HN.out] at h9; exact ownsRow_down h9 (Nat.zero_le _)), (BB9 hb)⟩
              case round =>
                clear hb HDA HDB HK
                obtain ⟨j, rfl, hk, hda, hdb, ho, hb⟩ := hrel
                have HDA := Lib.hid hda; clear hda
                have HDB := Lib.hid hdb; clear hdb
                by_cases hkn : j + 1 < N
                · have hD1 : j + 1 < D.length := by have := HN.out; omega
                  have c0 := ho.cellAt j (by omega)
                  have c1 := ho.cellAt (j + 1) (by omega)
                  have hlt := srt_at hgD.srt (i := j) (j := j + 1) (by omega) hD1
                  have hs0 := hgD.key D[j] (List.getElem_mem ..)
                  have hs1 := hgD.key D[j + 1] (List.getElem_mem ..)
                  rw [List.getElem?_map, List.getElem?_map, List.getElem?_eq_getElem (by omega)] at c0
                  rw [List.getElem?_map, List.getElem?_map, List.getElem?_eq_getElem hD1] at c1
                  obtain ⟨y, hy⟩ : ∃ y, D[j].k = y := ⟨_, rfl⟩
                  obtain ⟨z, hz⟩ : ∃ z, D[j + 1].k = z := ⟨_, rfl⟩
                  simp only [Option.map_some] at c0 c1
                  rw [hy] at hlt hs0 c0
                  rw [hz] at hlt hs1 c1
                  have HLT := Lib.hid hlt; clear hlt hy hz
                  have HO := Lib.hid ho; clear ho
                  have hji : (j : Int) + 1 < (N : Int) := by omega
                  have hjj : (j : Int) + 1 - 1 = (j : Int) := by omega
                  have hjk : ((j + 1 : Nat) : Int) = (j : Int) + 1 := by omega
                  have hjt : ((j : Int) + 1).toNat = j + 1 := by omega
                  have hgk := (HO.out.lt gk rfl).2
                  have hNj : ¬ N ≤ j := by omega
                  have hNk : ¬ N ≤ j + 1 := by omega
                  have hj0 : ¬ (j : Int) + 1 < 0 := by omega
                  have hj1 : ¬ (j : Int) < 0 := by omega
                  have hwj : IntKind.i64.wrap (j : Int) = (j : Int) := wrap_i64 _ (by omega) (by omega)
                  go_wp2_with fail
                  replace c0 : wr.drew.cell? ⟨gk, j, none⟩ = some (.string y) := c0
                  replace c1 : wr.drew.cell? ⟨gk, j + 1, none⟩ = some (.string z) := c1
                  replace HDA := Lib.hid (Dc.below HDA.out ((Below.refl wr.heap.size wr).drew))
                  replace HDB := Lib.hid (Dc.below HDB.out ((Below.refl wr.heap.size wr).drew))
                  replace HO := Lib.hid (ownsRow_below HO.out ((Below.refl wr.heap.size wr).drew))
                  refine wp_region_noPanic ?_
                  refine wp_region_held_drew (S := fun W => W.cell? ⟨gk, j, none⟩ = some (.string y) ∧ W.cell? ⟨gk, j + 1, none⟩ = some (.string z)) (by kernel_rfl) ?_ (fun hHeld => ?_)
                  · exact ⟨c0, c1⟩
                  replace hb : Below w.heap.size w wr.drew := hb.drew
                  replace hgk : gk < wr.drew.heap.size := hgk
                  have hzd : wr.heap.size ≤ wr.drew.heap.size := Nat.le_refl _
                  generalize wr.drew = k81 at *
                  refine wpAnyH_take (i := 0) (oi := { dst := some 91, op := Op.move (Operand.tmp 12), type := 50, pos := "wide.go:61", after := #[], guard := none }) (v := .slice (some ⟨gk, 0, none⟩) N N) rfl (by kernel_rfl) (by kernel_rfl) (by kernel_rfl) (fun _ _ _ h => h) (Or.inl ⟨by rfl, fun w hSw => ?_⟩) (by assumption) ?_
                  · (try dsimp only at hSw)
                    go_simp
                  try simp only [Act.put, List.setIfInBounds_toArray, List.set_cons_zero, List.set_cons_succ]
                  refine wpAnyH_take (i := 1) (oi := { dst := some 92, op := Op.move (Operand.tmp 13), type := 3, pos := "wide.go:61", after := #[], guard := none }) (v := .int .i64 ((j : Int) + 1)) rfl (by kernel_rfl) (by kernel_rfl) (by kernel_rfl) (fun _ _ _ h => h) (Or.inl ⟨by rfl, fun w hSw => ?_⟩) (by assumption) ?_
                  · (try dsimp only at hSw)
                    go_simp
                  try simp only [Act.put, List.setIfInBounds_toArray, List.set_cons_zero, List.set_cons_succ]
                  refine wpAnyH_take (i := 2) (oi := { dst := some 93, op := Op.binOp BinOp.sub 3 (Operand.tmp 92) (Operand.const (Value.int IntKind.i64 1)) 3, type := 3, pos := "wide.go:61", after := #[{ on := 1, ground := Ground.data }], guard := none }) (v := .int .i64 (j : Int)) rfl (by kernel_rfl) (by kernel_rfl) (by kernel_rfl) (fun _ _ _ h => h) (Or.inl ⟨by rfl, fun w hSw => ?_⟩) (by assumption) ?_
                  · (try dsimp only at hSw)
                    go_simp
                  try simp only [Act.put, List.setIfInBounds_toArray, List.set_cons_zero, List.set_cons_succ]
                  refine wpAnyH_take (i := 3) (oi := { dst := some 94, op := Op.indexAddr 50 (Operand.tmp 91) (Operand.tmp 93), type := 0, pos := "wide.go:61", after := #[{ on := 0, ground := Ground.data }, { on := 2, ground := Ground.data }], guard := none }) (v := .pointer (some ⟨gk, j, none⟩)) rfl (by kernel_rfl) (by kernel_rfl) (by kernel_rfl) (fun _ _ _ h => h) (Or.inl ⟨by rfl, fun w hSw => ?_⟩) (by assumption) ?_
                  · (try dsimp only at hSw)
                    go_simp
                  try simp only [Act.put, List.setIfInBounds_toArray, List.set_cons_zero, List.set_cons_succ]
                  refine wpAnyH_take (i := 4) (oi := { dst := some 95, op := Op.load 9 (Operand.tmp 94), type := 9, pos := "wide.go:61", after := #[{ on := 3, ground := Ground.data }], guard := none }) (v := .string y) rfl (by kernel_rfl) (by kernel_rfl) (by kernel_rfl) (fun _ _ _ h => h) (Or.inl ⟨by rfl, fun w hSw => ?_⟩) (by assumption) ?_
                  · (try dsimp only at hSw)
                    go_simp
                  try simp only [Act.put, List.setIfInBounds_toArray, List.set_cons_zero, List.set_cons_succ]
                  refine wpAnyH_take (i := 5) (oi := { dst := some 96, op := Op.move (Operand.tmp 12), type := 50, pos := "wide.go:61", after := #[], guard := none }) (v := .slice (some ⟨gk, 0, none⟩) N N) rfl (by kernel_rfl) (by kernel_rfl) (by kernel_rfl) (fun _ _ _ h => h) (Or.inl ⟨by rfl, fun w hSw => ?_⟩) (by assumption) ?_
                  · (try dsimp only at hSw)
                    go_simp
                  try simp only [Act.put, List.setIfInBounds_toArray, List.set_cons_zero, List.set_cons_succ]
                  refine wpAnyH_take (i := 6) (oi := { dst := some 97, op := Op.move (Operand.tmp 13), type := 3, pos := "wide.go:61", after := #[], guard := none }) (v := .int .i64 ((j : Int) + 1)) rfl (by kernel_rfl) (by kernel_rfl) (by kernel_rfl) (fun _ _ _ h => h) (Or.inl ⟨by rfl, fun w hSw => ?_⟩) (by assumption) ?_
                  · (try dsimp only at hSw)
                    go_simp
                  try simp only [Act.put, List.setIfInBounds_toArray, List.set_cons_zero, List.set_cons_succ]
                  refine wpAnyH_take (i := 7) (oi := { dst := some 98, op := Op.indexAddr 50 (Operand.tmp 96) (Operand.tmp 97), type := 0, pos := "wide.go:61", after := #[{ on := 5, ground := Ground.data }, { on := 6, ground := Ground.data }], guard := none }) (v := .pointer (some ⟨gk, j + 1, none⟩)) rfl (by kernel_rfl) (by kernel_rfl) (by kernel_rfl) (fun _ _ _ h => h) (Or.inl ⟨by rfl, fun w hSw => ?_⟩) (by assumption) ?_
                  · (try dsimp only at hSw)
                    go_simp
                  try simp only [Act.put, List.setIfInBounds_toArray, List.set_cons_zero, List.set_cons_succ]
                  refine wpAnyH_take (i := 8) (oi := { dst := some 99, op := Op.load 9 (Operand.tmp 98), type := 9, pos := "wide.go:61", after := #[{ on := 7, ground := Ground.data }], guard := none }) (v := .string z) rfl (by kernel_rfl) (by kernel_rfl) (by kernel_rfl) (fun _ _ _ h => h) (Or.inl ⟨by rfl, fun w hSw => ?_⟩) (by assumption) ?_
                  · (try dsimp only at hSw)
                    go_simp
                  try simp only [Act.put, List.setIfInBounds_toArray, List.set_cons_zero, List.set_cons_succ]
                  refine wpAnyH_ready (rs := [9]) (by kernel_rfl) (by simp) ?_
                  refine AllReadyH.cons (o := { dst := some 100, op := Op.call { callee := Callee.value (Operand.func 28), args := #[Operand.tmp 95, Operand.tmp 99], argTypes := #[9, 9] }, type := 4, pos := "wide.go:61", after := #[{ on := 4, ground := Ground.data }, { on := 8, ground := Ground.data }], guard := none }) rfl (fun K hK => ?_) (AllReadyH.nil)
                  go_simp
                  go_at_call 28
                  refine (rless_is y z _ true (by omega) (by omega) HLT.out).mono ?_
                  rintro e k82 ⟨rfl, h⟩
                  have hk : Below k81.heap.size k81 k82 := HK9 h
                  have hz := h.size
                  try simp at hz
                  replace c0 : k82.cell? ⟨gk, j, none⟩ = some (.string y) := (hk.cell (p := ⟨gk, j, none⟩) LT9).trans c0
                  replace c1 : k82.cell? ⟨gk, j + 1, none⟩ = some (.string z) := (hk.cell (p := ⟨gk, j + 1, none⟩) LT9).trans c1
                  replace HDA := Lib.hid (Dc.below HDA.out hk)
                  replace HDB := Lib.hid (Dc.below HDB.out hk)
                  replace HO := Lib.hid (ownsRow_below HO.out hk)
                  replace hb : Below w.heap.size w k82 := hb.trans (hk.mono hb.size)
                  have hgk : gk < k82.heap.size := LT9
                  clear h hk
                  try dsimp only
                  refine hK.out _ _ ?_ (fun hHeld => ?_)
                  · exact ⟨c0, c1⟩
                  clear hK K
                  try simp only [Act.put, List.setIfInBounds_toArray, List.set_cons_zero, List.set_cons_succ]
                  refine wpAnyH_ready (rs := [10]) (by kernel_rfl) (by simp) ?_
                  refine AllReadyH.cons (o := { dst := some 101, op := Op.unOp UnOp.not 4 (Operand.tmp 100), type := 4, pos := "wide.go:61", after := #[{ on := 9, ground := Ground.data }], guard := none }) rfl (fun K hK => ?_) (AllReadyH.nil)
                  go_simp
                  refine hK.out _ _ ?_ (fun hHeld => ?_)
                  · exact ⟨c0, c1⟩
                  clear hK K
                  try simp only [Act.put, List.setIfInBounds_toArray, List.set_cons_zero, List.set_cons_succ]
                  refine wpAnyH_done (by kernel_rfl) ?_ _
                  refine NoPanic.normal ?_
                  go_wp2
                  go_roundw
                  case rel => exact ⟨j + 1, by go_num, by omega, HDA.out, HDB.out, HO.out, hb⟩
                  case measure => simp [intOf]; omega
                · have hji : ¬ (j : Int) + 1 < (N : Int) := by omega
                  obtain ⟨L, hL⟩ : ∃ x, bytesD D = x := ⟨_, rfl⟩
                  have HL := Lib.hid hL; clear hL
                  obtain ⟨S, hS⟩ : ∃ S : ByteArray, ⟨L.toArray⟩ = S := ⟨_, rfl⟩
                  have HS := Lib.hid hS; clear hS
                  clear ho
                  go_wp2_with fail
                  replace HDA := Lib.hid (Dc.below HDA.out ((Below.refl wr.heap.size wr).drew))
                  replace HDB := Lib.hid (Dc.below HDB.out ((Below.refl wr.heap.size wr).drew))
                  refine wp_region_noPanic ?_
                  refine wp_region_held_drew (S := fun W => True) (by kernel_rfl) ?_ (fun hHeld => ?_)
                  · trivial
                  replace hb : Below w.heap.size w wr.drew := hb.drew
                  have hzd : wr.heap.size ≤ wr.drew.heap.size := Nat.le_refl _
                  generalize wr.drew = k81 at *
                  refine wpAnyH_take (i := 0) (oi := { dst := some 102, op := Op.move (Operand.tmp 9), type := 24, pos := "wide.go:65", after := #[], guard := none }) (v := .pointer (some ⟨GA, 0, none⟩)) rfl (by kernel_rfl) (by kernel_rfl) (by kernel_rfl) (fun _ _ _ h => h) (Or.inl ⟨by rfl, fun w hSw => ?_⟩) (by assumption) ?_
                  · (try dsimp only at hSw)
                    go_simp
                  try simp only [Act.put, List.setIfInBounds_toArray, List.set_cons_zero, List.set_cons_succ]
                  refine wpAnyH_take (i := 1) (oi := { dst := some 103, op := Op.move (Operand.tmp 10), type := 24, pos := "wide.go:65", after := #[], guard := none }) (v := .pointer (some ⟨k21.heap.size, 0, none⟩)) rfl (by kernel_rfl) (by kernel_rfl) (by kernel_rfl) (fun _ _ _ h => h) (Or.inl ⟨by rfl, fun w hSw => ?_⟩) (by assumption) ?_
                  · (try dsimp only at hSw)
                    go_simp
                  try simp only [Act.put, List.setIfInBounds_toArray, List.set_cons_zero, List.set_cons_succ]
                  refine wpAnyH_ready (rs := [2]) (by kernel_rfl) (by simp) ?_
                  refine AllReadyH.cons (o := { dst := some 104, op := Op.call { callee := Callee.value (Operand.func 21), args := #[Operand.tmp 102, Operand.tmp 103], argTypes := #[24, 24] }, type := 4, pos := "wide.go:65", after := #[{ on := 0, ground := Ground.data }, { on := 1, ground := Ground.data }], guard := none }) rfl (fun K hK => ?_) (AllReadyH.nil)
                  go_simp
                  go_at_call 21
                  refine (leq_is w.heap.size w.heap.size _ _ D D true _ HDA.out HDB.out (eqD_self _)).mono ?_
                  rintro e k82 ⟨rfl, h⟩
                  have hk : Below k81.heap.size k81 k82 := HK9 h
                  have hz := h.size
                  try simp at hz
                  replace HDA := Lib.hid (Dc.below HDA.out hk)
                  replace HDB := Lib.hid (Dc.below HDB.out hk)
                  replace hb : Below w.heap.size w k82 := hb.trans (hk.mono hb.size)
                  clear h hk
                  try dsimp only
                  refine hK.out _ _ ?_ (fun hHeld => ?_)
                  · trivial
                  clear hK K
                  try simp only [Act.put, List.setIfInBounds_toArray, List.set_cons_zero, List.set_cons_succ]
                  refine wpAnyH_take (i := 3) (oi := { dst := some 105, op := Op.move (Operand.tmp 104), type := 4, pos := "wide.go:65", after := #[{ on := 2, ground := Ground.data }, { on := 2, ground := Ground.chain }], guard := none }) (v := .bool true) rfl (by kernel_rfl) (by kernel_rfl) (by kernel_rfl) (fun _ _ _ h => h) (Or.inl ⟨by rfl, fun w hSw => ?_⟩) (by assumption) ?_
                  · (try dsimp only at hSw)
                    go_simp
                  try simp only [Act.put, List.setIfInBounds_toArray, List.set_cons_zero, List.set_cons_succ]
                  refine wpAnyH_take (i := 4) (oi := { dst := some 106, op := Op.move (Operand.tmp 9), type := 24, pos := "wide.go:65", after := #[{ on := 3, ground := Ground.guard }], guard := some (3, true) }) (v := .pointer (some ⟨GA, 0, none⟩)) rfl (by kernel_rfl) (by kernel_rfl) (by kernel_rfl) (fun _ _ _ h => h) (Or.inl ⟨by rfl, fun w hSw => ?_⟩) (by assumption) ?_
                  · (try dsimp only at hSw)
                    go_simp
                  try simp only [Act.put, List.setIfInBounds_toArray, List.set_cons_zero, List.set_cons_succ]
                  refine wpAnyH_take (i := 7) (oi := { dst := some 109, op := Op.move (Operand.tmp 10), type := 24, pos := "wide.go:65", after := #[{ on := 3, ground := Ground.guard }], guard := some (3, true) }) (v := .pointer (some ⟨k21.heap.size, 0, none⟩)) rfl (by kernel_rfl) (by kernel_rfl) (by kernel_rfl) (fun _ _ _ h => h) (Or.inl ⟨by rfl, fun w hSw => ?_⟩) (by assumption) ?_
                  · (try dsimp only at hSw)
                    go_simp
                  try simp only [Act.put, List.setIfInBounds_toArray, List.set_cons_zero, List.set_cons_succ]
                  refine wpAnyH_ready (rs := [5]) (by kernel_rfl) (by simp) ?_
                  refine AllReadyH.cons (o := { dst := some 107, op := Op.call { callee := Callee.value (Operand.func 18), args := #[Operand.tmp 106], argTypes := #[24] }, type := 37, pos := "wide.go:65", after := #[{ on := 4, ground := Ground.data }, { on := 3, ground := Ground.chain }, { on := 3, ground := Ground.guard }], guard := some (3, true) }) rfl (fun K hK => ?_) (AllReadyH.nil)
                  go_simp
                  go_at_call 18
                  refine (lenc_is w.heap.size _ D L _ HDA.out HL.out).mono ?_
                  rintro e k83 ⟨gA, cA, rfl, hE, h⟩
                  have hk : Below k82.heap.size k82 k83 := HK9 h
                  have hz := h.size
                  try simp at hz
                  replace HDA := Lib.hid (Dc.below HDA.out hk)
                  replace HDB := Lib.hid (Dc.below HDB.out hk)
                  replace hb : Below w.heap.size w k83 := hb.trans (hk.mono hb.size)
                  have HEA := Lib.hid hE; clear hE
                  clear h hk
                  try dsimp only
                  refine hK.out _ _ ?_ (fun hHeld => ?_)
                  · trivial
                  clear hK K
                  try simp only [Act.put, List.setIfInBounds_toArray, List.set_cons_zero, List.set_cons_succ]
                  refine wpAnyH_ready (rs := [6, 8]) (by kernel_rfl) (by simp) ?_
                  refine AllReadyH.cons (o := { dst := some 108, op := Op.convert 37 9 (Operand.tmp 107), type := 9, pos := "wide.go:65", after := #[{ on := 5, ground := Ground.data }, { on := 3, ground := Ground.guard }], guard := some (3, true) }) rfl (fun K hK => ?_) (AllReadyH.cons (o := { dst := some 110, op := Op.call { callee := Callee.value (Operand.func 18), args := #[Operand.tmp 109], argTypes := #[24] }, type := 37, pos := "wide.go:65", after := #[{ on := 7, ground := Ground.data }, { on := 5, ground := Ground.chain }, { on := 3, ground := Ground.guard }], guard := some (3, true) }) rfl (fun K hK => ?_) (AllReadyH.nil))
                  · have hcv := conv6 (Byt.of_own HEA.out) HS.out
                    go_simp
                    refine hK.out _ _ ?_ (fun hHeld => ?_)
                    · trivial
                    clear hK K
                    try simp only [Act.put, List.setIfInBounds_toArray, List.set_cons_zero, List.set_cons_succ]
                    refine wpAnyH_ready (rs := [8]) (by kernel_rfl) (by simp) ?_
                    refine AllReadyH.cons (o := { dst := some 110, op := Op.call { callee := Callee.value (Operand.func 18), args := #[Operand.tmp 109], argTypes := #[24] }, type := 37, pos := "wide.go:65", after := #[{ on := 7, ground := Ground.data }, { on := 5, ground := Ground.chain }, { on := 3, ground := Ground.guard }], guard := some (3, true) }) rfl (fun K hK => ?_) (AllReadyH.nil)
                    go_simp
                    go_at_call 18
                    refine (lenc_is w.heap.size _ D L _ HDB.out HL.out).mono ?_
                    rintro e k84 ⟨gB, cB, rfl, hE, h⟩
                    have hk : Below k83.heap.size k83 k84 := HK9 h
                    have hz := h.size
                    try simp at hz
                    replace HDA := Lib.hid (Dc.below HDA.out hk)
                    replace HDB := Lib.hid (Dc.below HDB.out hk)
                    replace HEA := Lib.hid (ownsRow_below HEA.out hk)
                    replace hb : Below w.heap.size w k84 := hb.trans (hk.mono hb.size)
                    have HEB := Lib.hid hE; clear hE
                    clear h hk
                    try dsimp only
                    refine hK.out _ _ ?_ (fun hHeld => ?_)
                    · trivial
                    clear hK K
                    try simp only [Act.put, List.setIfInBounds_toArray, List.set_cons_zero, List.set_cons_succ]
                    refine wpAnyH_ready (rs := [9]) (by kernel_rfl) (by simp) ?_
                    refine AllReadyH.cons (o := { dst := some 111, op := Op.convert 37 9 (Operand.tmp 110), type := 9, pos := "wide.go:65", after := #[{ on := 8, ground := Ground.data }, { on := 3, ground := Ground.guard }], guard := some (3, true) }) rfl (fun K hK => ?_) (AllReadyH.nil)
                    have hcv := conv6 (Byt.of_own HEB.out) HS.out
                    go_simp
                    refine hK.out _ _ ?_ (fun hHeld => ?_)
                    · trivial
                    clear hK K
                    try simp only [Act.put, List.setIfInBounds_toArray, List.set_cons_zero, List.set_cons_succ]
                    refine wpAnyH_take (i := 10) (oi := { dst := some 112, op := Op.binOp BinOp.eql 9 (Operand.tmp 108) (Operand.tmp 111) 9, type := 4, pos := "wide.go:65", after := #[{ on := 6, ground := Ground.data }, { on := 9, ground := Ground.data }, { on := 3, ground := Ground.guard }], guard := some (3, true) }) (v := .bool true) rfl (by kernel_rfl) (by kernel_rfl) (by kernel_rfl) (fun _ _ _ h => h) (Or.inl ⟨by rfl, fun w hSw => ?_⟩) (by assumption) ?_
                    · (try dsimp only at hSw)
                      go_simp
                    try simp only [Act.put, List.setIfInBounds_toArray, List.set_cons_zero, List.set_cons_succ]
                    refine wpAnyH_take (i := 11) (oi := { dst := some 113, op := Op.pick (Operand.tmp 105) (Operand.tmp 112) (Operand.const (Value.bool false)), type := 4, pos := "wide.go:65", after := #[{ on := 3, ground := Ground.data }, { on := 10, ground := Ground.data }], guard := none }) (v := .bool true) rfl (by kernel_rfl) (by kernel_rfl) (by kernel_rfl) (fun _ _ _ h => h) (Or.inl ⟨by rfl, fun w hSw => ?_⟩) (by assumption) ?_
                    · (try dsimp only at hSw)
                      go_simp
                    try simp only [Act.put, List.setIfInBounds_toArray, List.set_cons_zero, List.set_cons_succ]
                    refine wpAnyH_take (i := 12) (oi := { dst := some 114, op := Op.move (Operand.tmp 113), type := 4, pos := "wide.go:65", after := #[{ on := 11, ground := Ground.data }, { on := 8, ground := Ground.chain }], guard := none }) (v := .bool true) rfl (by kernel_rfl) (by kernel_rfl) (by kernel_rfl) (fun _ _ _ h => h) (Or.inl ⟨by rfl, fun w hSw => ?_⟩) (by assumption) ?_
                    · (try dsimp only at hSw)
                      go_simp
                    try simp only [Act.put, List.setIfInBounds_toArray, List.set_cons_zero, List.set_cons_succ]
                    refine wpAnyH_take (i := 13) (oi := { dst := some 115, op := Op.move (Operand.tmp 12), type := 50, pos := "wide.go:65", after := #[{ on := 12, ground := Ground.guard }], guard := some (12, true) }) (v := .slice (some ⟨gk, 0, none⟩) N N) rfl (by kernel_rfl) (by kernel_rfl) (by kernel_rfl) (fun _ _ _ h => h) (Or.inl ⟨by rfl, fun w hSw => ?_⟩) (by assumption) ?_
                    · (try dsimp only at hSw)
                      go_simp
                    try simp only [Act.put, List.setIfInBounds_toArray, List.set_cons_zero, List.set_cons_succ]
                    refine wpAnyH_take (i := 14) (oi := { dst := some 116, op := Op.call { callee := Callee.builtin Builtin.len, args := #[Operand.tmp 115], argTypes := #[50] }, type := 3, pos := "wide.go:65", after := #[{ on := 13, ground := Ground.data }, { on := 12, ground := Ground.guard }], guard := some (12, true) }) (v := .int .i64 (N : Int)) rfl (by kernel_rfl) (by kernel_rfl) (by kernel_rfl) (fun _ _ _ h => h) (Or.inl ⟨by rfl, fun w hSw => ?_⟩) (by assumption) ?_
                    · (try dsimp only at hSw)
                      go_simp
                    try simp only [Act.put, List.setIfInBounds_toArray, List.set_cons_zero, List.set_cons_succ]
                    refine wpAnyH_take (i := 15) (oi := { dst := some 117, op := Op.move (Operand.tmp 10), type := 24, pos := "wide.go:65", after := #[{ on := 12, ground := Ground.guard }], guard := some (12, true) }) (v := .pointer (some ⟨k21.heap.size, 0, none⟩)) rfl (by kernel_rfl) (by kernel_rfl) (by kernel_rfl) (fun _ _ _ h => h) (Or.inl ⟨by rfl, fun w hSw => ?_⟩) (by assumption) ?_
                    · (try dsimp only at hSw)
                      go_simp
                    try simp only [Act.put, List.setIfInBounds_toArray, List.set_cons_zero, List.set_cons_succ]
                    refine wpAnyH_ready (rs := [16]) (by kernel_rfl) (by simp) ?_
                    refine AllReadyH.cons (o := { dst := some 118, op := Op.call { callee := Callee.value (Operand.func 25), args := #[Operand.tmp 117], argTypes := #[24] }, type := 50, pos := "wide.go:65", after := #[{ on := 15, ground := Ground.data }, { on := 12, ground := Ground.chain }, { on := 12, ground := Ground.guard }], guard := some (12, true) }) rfl (fun K hK => ?_) (AllReadyH.nil)
                    go_simp
                    go_at_call 25
                    refine (lkeys_is w.heap.size _ N D _ HDB.out HN.out).mono ?_
                    rintro e k85 ⟨gk2, rfl, hK2, h⟩
                    have hk : Below k84.heap.size k84 k85 := HK9 h
                    have hz := h.size
                    try simp at hz
                    replace HDA := Lib.hid (Dc.below HDA.out hk)
                    replace HDB := Lib.hid (Dc.below HDB.out hk)
                    replace HEA := Lib.hid (ownsRow_below HEA.out hk)
                    replace HEB := Lib.hid (ownsRow_below HEB.out hk)
                    replace hb : Below w.heap.size w k85 := hb.trans (hk.mono hb.size)
                    clear hK2
                    clear h hk
                    try dsimp only
                    refine hK.out _ _ ?_ (fun hHeld => ?_)
                    · trivial
                    clear hK K
                    try simp only [Act.put, List.setIfInBounds_toArray, List.set_cons_zero, List.set_cons_succ]
                    refine wpAnyH_take (i := 17) (oi := { dst := some 119, op := Op.call { callee := Callee.builtin Builtin.len, args := #[Operand.tmp 118], argTypes := #[50] }, type := 3, pos := "wide.go:65", after := #[{ on := 16, ground := Ground.data }, { on := 12, ground := Ground.guard }], guard := some (12, true) }) (v := .int .i64 (N : Int)) rfl (by kernel_rfl) (by kernel_rfl) (by kernel_rfl) (fun _ _ _ h => h) (Or.inl ⟨by rfl, fun w hSw => ?_⟩) (by assumption) ?_
                    · (try dsimp only at hSw)
                      go_simp
                    try simp only [Act.put, List.setIfInBounds_toArray, List.set_cons_zero, List.set_cons_succ]
                    refine wpAnyH_take (i := 18) (oi := { dst := some 120, op := Op.binOp BinOp.eql 3 (Operand.tmp 116) (Operand.tmp 119) 3, type := 4, pos := "wide.go:65", after := #[{ on := 14, ground := Ground.data }, { on := 17, ground := Ground.data }, { on := 12, ground := Ground.guard }], guard := some (12, true) }) (v := .bool true) rfl (by kernel_rfl) (by kernel_rfl) (by kernel_rfl) (fun _ _ _ h => h) (Or.inl ⟨by rfl, fun w hSw => ?_⟩) (by assumption) ?_
                    · (try dsimp only at hSw)
                      go_simp
                    try simp only [Act.put, List.setIfInBounds_toArray, List.set_cons_zero, List.set_cons_succ]
                    refine wpAnyH_take (i := 19) (oi := { dst := some 121, op := Op.pick (Operand.tmp 114) (Operand.tmp 120) (Operand.const (Value.bool false)), type := 4, pos := "wide.go:65", after := #[{ on := 12, ground := Ground.data }, { on := 18, ground := Ground.data }], guard := none }) (v := .bool true) rfl (by kernel_rfl) (by kernel_rfl) (by kernel_rfl) (fun _ _ _ h => h) (Or.inl ⟨by rfl, fun w hSw => ?_⟩) (by assumption) ?_
                    · (try dsimp only at hSw)
                      go_simp
                    try simp only [Act.put, List.setIfInBounds_toArray, List.set_cons_zero, List.set_cons_succ]
                    refine wpAnyH_ready (rs := [20]) (by kernel_rfl) (by simp) ?_
                    refine AllReadyH.cons (o := { dst := some 4, op := Op.assign (Operand.tmp 121), type := 4, pos := "wide.go:65", after := #[{ on := 19, ground := Ground.data }, { on := 16, ground := Ground.chain }, { on := 0, ground := Ground.phase }, { on := 1, ground := Ground.phase }, { on := 2, ground := Ground.phase }, { on := 3, ground := Ground.phase }, { on := 4, ground := Ground.phase }, { on := 5, ground := Ground.phase }, { on := 6, ground := Ground.phase }, { on := 7, ground := Ground.phase }, { on := 8, ground := Ground.phase }, { on := 9, ground := Ground.phase }, { on := 10, ground := Ground.phase }, { on := 11, ground := Ground.phase }, { on := 12, ground := Ground.phase }, { on := 13, ground := Ground.phase }, { on := 14, ground := Ground.phase }, { on := 15, ground := Ground.phase }, { on := 16, ground := Ground.phase }, { on := 17, ground := Ground.phase }, { on := 18, ground := Ground.phase }, { on := 19, ground := Ground.phase }], guard := none }) rfl (fun K hK => ?_) (AllReadyH.nil)
                    go_simp
                    refine hK.out _ _ ?_ (fun hHeld => ?_)
                    · trivial
                    clear hK K
                    try simp only [Act.put, List.setIfInBounds_toArray, List.set_cons_zero, List.set_cons_succ]
                    refine wpAnyH_done (by kernel_rfl) ?_ _
                    refine NoPanic.normal ?_
                    go_wp2
                    go_ret
                    exact ⟨by first | rfl | simp, hb⟩
                  · go_simp
                    go_at_call 18
                    refine (lenc_is w.heap.size _ D L _ HDB.out HL.out).mono ?_
                    rintro e k84 ⟨gB, cB, rfl, hE, h⟩
                    have hk : Below k83.heap.size k83 k84 := HK9 h
                    have hz := h.size
                    try simp at hz
                    replace HDA := Lib.hid (Dc.below HDA.out hk)
                    replace HDB := Lib.hid (Dc.below HDB.out hk)
                    replace HEA := Lib.hid (ownsRow_below HEA.out hk)
                    replace hb : Below w.heap.size w k84 := hb.trans (hk.mono hb.size)
                    have HEB := Lib.hid hE; clear hE
                    clear h hk
                    try dsimp only
                    refine hK.out _ _ ?_ (fun hHeld => ?_)
                    · trivial
                    clear hK K
                    try simp only [Act.put, List.setIfInBounds_toArray, List.set_cons_zero, List.set_cons_succ]
                    refine wpAnyH_ready (rs := [6, 9]) (by kernel_rfl) (by simp) ?_
                    refine AllReadyH.cons (o := { dst := some 108, op := Op.convert 37 9 (Operand.tmp 107), type := 9, pos := "wide.go:65", after := #[{ on := 5, ground := Ground.data }, { on := 3, ground := Ground.guard }], guard := some (3, true) }) rfl (fun K hK => ?_) (AllReadyH.cons (o := { dst := some 111, op := Op.convert 37 9 (Operand.tmp 110), type := 9, pos := "wide.go:65", after := #[{ on := 8, ground := Ground.data }, { on := 3, ground := Ground.guard }], guard := some (3, true) }) rfl (fun K hK => ?_) (AllReadyH.nil))
                    · have hcv := conv6 (Byt.of_own HEA.out) HS.out
                      go_simp
                      refine hK.out _ _ ?_ (fun hHeld => ?_)
                      · trivial
                      clear hK K
                      try simp only [Act.put, List.setIfInBounds_toArray, List.set_cons_zero, List.set_cons_succ]
                      refine wpAnyH_ready (rs := [9]) (by kernel_rfl) (by simp) ?_
                      refine AllReadyH.cons (o := { dst := some 111, op := Op.convert 37 9 (Operand.tmp 110), type := 9, pos := "wide.go:65", after := #[{ on := 8, ground := Ground.data }, { on := 3, ground := Ground.guard }], guard := some (3, true) }) rfl (fun K hK => ?_) (AllReadyH.nil)
                      have hcv := conv6 (Byt.of_own HEB.out) HS.out
                      go_simp
                      refine hK.out _ _ ?_ (fun hHeld => ?_)
                      · trivial
                      clear hK K
                      try simp only [Act.put, List.setIfInBounds_toArray, List.set_cons_zero, List.set_cons_succ]
                      refine wpAnyH_take (i := 10) (oi := { dst := some 112, op := Op.binOp BinOp.eql 9 (Operand.tmp 108) (Operand.tmp 111) 9, type := 4, pos := "wide.go:65", after := #[{ on := 6, ground := Ground.data }, { on := 9, ground := Ground.data }, { on := 3, ground := Ground.guard }], guard := some (3, true) }) (v := .bool true) rfl (by kernel_rfl) (by kernel_rfl) (by kernel_rfl) (fun _ _ _ h => h) (Or.inl ⟨by rfl, fun w hSw => ?_⟩) (by assumption) ?_
                      · (try dsimp only at hSw)
                        go_simp
                      try simp only [Act.put, List.setIfInBounds_toArray, List.set_cons_zero, List.set_cons_succ]
                      refine wpAnyH_take (i := 11) (oi := { dst := some 113, op := Op.pick (Operand.tmp 105) (Operand.tmp 112) (Operand.const (Value.bool false)), type := 4, pos := "wide.go:65", after := #[{ on := 3, ground := Ground.data }, { on := 10, ground := Ground.data }], guard := none }) (v := .bool true) rfl (by kernel_rfl) (by kernel_rfl) (by kernel_rfl) (fun _ _ _ h => h) (Or.inl ⟨by rfl, fun w hSw => ?_⟩) (by assumption) ?_
                      · (try dsimp only at hSw)
                        go_simp
                      try simp only [Act.put, List.setIfInBounds_toArray, List.set_cons_zero, List.set_cons_succ]
                      refine wpAnyH_take (i := 12) (oi := { dst := some 114, op := Op.move (Operand.tmp 113), type := 4, pos := "wide.go:65", after := #[{ on := 11, ground := Ground.data }, { on := 8, ground := Ground.chain }], guard := none }) (v := .bool true) rfl (by kernel_rfl) (by kernel_rfl) (by kernel_rfl) (fun _ _ _ h => h) (Or.inl ⟨by rfl, fun w hSw => ?_⟩) (by assumption) ?_
                      · (try dsimp only at hSw)
                        go_simp
                      try simp only [Act.put, List.setIfInBounds_toArray, List.set_cons_zero, List.set_cons_succ]
                      refine wpAnyH_take (i := 13) (oi := { dst := some 115, op := Op.move (Operand.tmp 12), type := 50, pos := "wide.go:65", after := #[{ on := 12, ground := Ground.guard }], guard := some (12, true) }) (v := .slice (some ⟨gk, 0, none⟩) N N) rfl (by kernel_rfl) (by kernel_rfl) (by kernel_rfl) (fun _ _ _ h => h) (Or.inl ⟨by rfl, fun w hSw => ?_⟩) (by assumption) ?_
                      · (try dsimp only at hSw)
                        go_simp
                      try simp only [Act.put, List.setIfInBounds_toArray, List.set_cons_zero, List.set_cons_succ]
                      refine wpAnyH_take (i := 14) (oi := { dst := some 116, op := Op.call { callee := Callee.builtin Builtin.len, args := #[Operand.tmp 115], argTypes := #[50] }, type := 3, pos := "wide.go:65", after := #[{ on := 13, ground := Ground.data }, { on := 12, ground := Ground.guard }], guard := some (12, true) }) (v := .int .i64 (N : Int)) rfl (by kernel_rfl) (by kernel_rfl) (by kernel_rfl) (fun _ _ _ h => h) (Or.inl ⟨by rfl, fun w hSw => ?_⟩) (by assumption) ?_
                      · (try dsimp only at hSw)
                        go_simp
                      try simp only [Act.put, List.setIfInBounds_toArray, List.set_cons_zero, List.set_cons_succ]
                      refine wpAnyH_take (i := 15) (oi := { dst := some 117, op := Op.move (Operand.tmp 10), type := 24, pos := "wide.go:65", after := #[{ on := 12, ground := Ground.guard }], guard := some (12, true) }) (v := .pointer (some ⟨k21.heap.size, 0, none⟩)) rfl (by kernel_rfl) (by kernel_rfl) (by kernel_rfl) (fun _ _ _ h => h) (Or.inl ⟨by rfl, fun w hSw => ?_⟩) (by assumption) ?_
                      · (try dsimp only at hSw)
                        go_simp
                      try simp only [Act.put, List.setIfInBounds_toArray, List.set_cons_zero, List.set_cons_succ]
                      refine wpAnyH_ready (rs := [16]) (by kernel_rfl) (by simp) ?_
                      refine AllReadyH.cons (o := { dst := some 118, op := Op.call { callee := Callee.value (Operand.func 25), args := #[Operand.tmp 117], argTypes := #[24] }, type := 50, pos := "wide.go:65", after := #[{ on := 15, ground := Ground.data }, { on := 12, ground := Ground.chain }, { on := 12, ground := Ground.guard }], guard := some (12, true) }) rfl (fun K hK => ?_) (AllReadyH.nil)
                      go_simp
                      go_at_call 25
                      refine (lkeys_is w.heap.size _ N D _ HDB.out HN.out).mono ?_
                      rintro e k85 ⟨gk2, rfl, hK2, h⟩
                      have hk : Below k84.heap.size k84 k85 := HK9 h
                      have hz := h.size
                      try simp at hz
                      replace HDA := Lib.hid (Dc.below HDA.out hk)
                      replace HDB := Lib.hid (Dc.below HDB.out hk)
                      replace HEA := Lib.hid (ownsRow_below HEA.out hk)
                      replace HEB := Lib.hid (ownsRow_below HEB.out hk)
                      replace hb : Below w.heap.size w k85 := hb.trans (hk.mono hb.size)
                      clear hK2
                      clear h hk
                      try dsimp only
                      refine hK.out _ _ ?_ (fun hHeld => ?_)
                      · trivial
                      clear hK K
                      try simp only [Act.put, List.setIfInBounds_toArray, List.set_cons_zero, List.set_cons_succ]
                      refine wpAnyH_take (i := 17) (oi := { dst := some 119, op := Op.call { callee := Callee.builtin Builtin.len, args := #[Operand.tmp 118], argTypes := #[50] }, type := 3, pos := "wide.go:65", after := #[{ on := 16, ground := Ground.data }, { on := 12, ground := Ground.guard }], guard := some (12, true) }) (v := .int .i64 (N : Int)) rfl (by kernel_rfl) (by kernel_rfl) (by kernel_rfl) (fun _ _ _ h => h) (Or.inl ⟨by rfl, fun w hSw => ?_⟩) (by assumption) ?_
                      · (try dsimp only at hSw)
                        go_simp
                      try simp only [Act.put, List.setIfInBounds_toArray, List.set_cons_zero, List.set_cons_succ]
                      refine wpAnyH_take (i := 18) (oi := { dst := some 120, op := Op.binOp BinOp.eql 3 (Operand.tmp 116) (Operand.tmp 119) 3, type := 4, pos := "wide.go:65", after := #[{ on := 14, ground := Ground.data }, { on := 17, ground := Ground.data }, { on := 12, ground := Ground.guard }], guard := some (12, true) }) (v := .bool true) rfl (by kernel_rfl) (by kernel_rfl) (by kernel_rfl) (fun _ _ _ h => h) (Or.inl ⟨by rfl, fun w hSw => ?_⟩) (by assumption) ?_
                      · (try dsimp only at hSw)
                        go_simp
                      try simp only [Act.put, List.setIfInBounds_toArray, List.set_cons_zero, List.set_cons_succ]
                      refine wpAnyH_take (i := 19) (oi := { dst := some 121, op := Op.pick (Operand.tmp 114) (Operand.tmp 120) (Operand.const (Value.bool false)), type := 4, pos := "wide.go:65", after := #[{ on := 12, ground := Ground.data }, { on := 18, ground := Ground.data }], guard := none }) (v := .bool true) rfl (by kernel_rfl) (by kernel_rfl) (by kernel_rfl) (fun _ _ _ h => h) (Or.inl ⟨by rfl, fun w hSw => ?_⟩) (by assumption) ?_
                      · (try dsimp only at hSw)
                        go_simp
                      try simp only [Act.put, List.setIfInBounds_toArray, List.set_cons_zero, List.set_cons_succ]
                      refine wpAnyH_ready (rs := [20]) (by kernel_rfl) (by simp) ?_
                      refine AllReadyH.cons (o := { dst := some 4, op := Op.assign (Operand.tmp 121), type := 4, pos := "wide.go:65", after := #[{ on := 19, ground := Ground.data }, { on := 16, ground := Ground.chain }, { on := 0, ground := Ground.phase }, { on := 1, ground := Ground.phase }, { on := 2, ground := Ground.phase }, { on := 3, ground := Ground.phase }, { on := 4, ground := Ground.phase }, { on := 5, ground := Ground.phase }, { on := 6, ground := Ground.phase }, { on := 7, ground := Ground.phase }, { on := 8, ground := Ground.phase }, { on := 9, ground := Ground.phase }, { on := 10, ground := Ground.phase }, { on := 11, ground := Ground.phase }, { on := 12, ground := Ground.phase }, { on := 13, ground := Ground.phase }, { on := 14, ground := Ground.phase }, { on := 15, ground := Ground.phase }, { on := 16, ground := Ground.phase }, { on := 17, ground := Ground.phase }, { on := 18, ground := Ground.phase }, { on := 19, ground := Ground.phase }], guard := none }) rfl (fun K hK => ?_) (AllReadyH.nil)
                      go_simp
                      refine hK.out _ _ ?_ (fun hHeld => ?_)
                      · trivial
                      clear hK K
                      try simp only [Act.put, List.setIfInBounds_toArray, List.set_cons_zero, List.set_cons_succ]
                      refine wpAnyH_done (by kernel_rfl) ?_ _
                      refine NoPanic.normal ?_
                      go_wp2
                      go_ret
                      exact ⟨by first | rfl | simp, hb⟩
                    · have hcv := conv6 (Byt.of_own HEB.out) HS.out
                      go_simp
                      refine hK.out _ _ ?_ (fun hHeld => ?_)
                      · trivial
                      clear hK K
                      try simp only [Act.put, List.setIfInBounds_toArray, List.set_cons_zero, List.set_cons_succ]
                      refine wpAnyH_ready (rs := [6]) (by kernel_rfl) (by simp) ?_
                      refine AllReadyH.cons (o := { dst := some 108, op := Op.convert 37 9 (Operand.tmp 107), type := 9, pos := "wide.go:65", after := #[{ on := 5, ground := Ground.data }, { on := 3, ground := Ground.guard }], guard := some (3, true) }) rfl (fun K hK => ?_) (AllReadyH.nil)
                      have hcv := conv6 (Byt.of_own HEA.out) HS.out
                      go_simp
                      refine hK.out _ _ ?_ (fun hHeld => ?_)
                      · trivial
                      clear hK K
                      try simp only [Act.put, List.setIfInBounds_toArray, List.set_cons_zero, List.set_cons_succ]
                      refine wpAnyH_take (i := 10) (oi := { dst := some 112, op := Op.binOp BinOp.eql 9 (Operand.tmp 108) (Operand.tmp 111) 9, type := 4, pos := "wide.go:65", after := #[{ on := 6, ground := Ground.data }, { on := 9, ground := Ground.data }, { on := 3, ground := Ground.guard }], guard := some (3, true) }) (v := .bool true) rfl (by kernel_rfl) (by kernel_rfl) (by kernel_rfl) (fun _ _ _ h => h) (Or.inl ⟨by rfl, fun w hSw => ?_⟩) (by assumption) ?_
                      · (try dsimp only at hSw)
                        go_simp
                      try simp only [Act.put, List.setIfInBounds_toArray, List.set_cons_zero, List.set_cons_succ]
                      refine wpAnyH_take (i := 11) (oi := { dst := some 113, op := Op.pick (Operand.tmp 105) (Operand.tmp 112) (Operand.const (Value.bool false)), type := 4, pos := "wide.go:65", after := #[{ on := 3, ground := Ground.data }, { on := 10, ground := Ground.data }], guard := none }) (v := .bool true) rfl (by kernel_rfl) (by kernel_rfl) (by kernel_rfl) (fun _ _ _ h => h) (Or.inl ⟨by rfl, fun w hSw => ?_⟩) (by assumption) ?_
                      · (try dsimp only at hSw)
                        go_simp
                      try simp only [Act.put, List.setIfInBounds_toArray, List.set_cons_zero, List.set_cons_succ]
                      refine wpAnyH_take (i := 12) (oi := { dst := some 114, op := Op.move (Operand.tmp 113), type := 4, pos := "wide.go:65", after := #[{ on := 11, ground := Ground.data }, { on := 8, ground := Ground.chain }], guard := none }) (v := .bool true) rfl (by kernel_rfl) (by kernel_rfl) (by kernel_rfl) (fun _ _ _ h => h) (Or.inl ⟨by rfl, fun w hSw => ?_⟩) (by assumption) ?_
                      · (try dsimp only at hSw)
                        go_simp
                      try simp only [Act.put, List.setIfInBounds_toArray, List.set_cons_zero, List.set_cons_succ]
                      refine wpAnyH_take (i := 13) (oi := { dst := some 115, op := Op.move (Operand.tmp 12), type := 50, pos := "wide.go:65", after := #[{ on := 12, ground := Ground.guard }], guard := some (12, true) }) (v := .slice (some ⟨gk, 0, none⟩) N N) rfl (by kernel_rfl) (by kernel_rfl) (by kernel_rfl) (fun _ _ _ h => h) (Or.inl ⟨by rfl, fun w hSw => ?_⟩) (by assumption) ?_
                      · (try dsimp only at hSw)
                        go_simp
                      try simp only [Act.put, List.setIfInBounds_toArray, List.set_cons_zero, List.set_cons_succ]
                      refine wpAnyH_take (i := 14) (oi := { dst := some 116, op := Op.call { callee := Callee.builtin Builtin.len, args := #[Operand.tmp 115], argTypes := #[50] }, type := 3, pos := "wide.go:65", after := #[{ on := 13, ground := Ground.data }, { on := 12, ground := Ground.guard }], guard := some (12, true) }) (v := .int .i64 (N : Int)) rfl (by kernel_rfl) (by kernel_rfl) (by kernel_rfl) (fun _ _ _ h => h) (Or.inl ⟨by rfl, fun w hSw => ?_⟩) (by assumption) ?_
                      · (try dsimp only at hSw)
                        go_simp
                      try simp only [Act.put, List.setIfInBounds_toArray, List.set_cons_zero, List.set_cons_succ]
                      refine wpAnyH_take (i := 15) (oi := { dst := some 117, op := Op.move (Operand.tmp 10), type := 24, pos := "wide.go:65", after := #[{ on := 12, ground := Ground.guard }], guard := some (12, true) }) (v := .pointer (some ⟨k21.heap.size, 0, none⟩)) rfl (by kernel_rfl) (by kernel_rfl) (by kernel_rfl) (fun _ _ _ h => h) (Or.inl ⟨by rfl, fun w hSw => ?_⟩) (by assumption) ?_
                      · (try dsimp only at hSw)
                        go_simp
                      try simp only [Act.put, List.setIfInBounds_toArray, List.set_cons_zero, List.set_cons_succ]
                      refine wpAnyH_ready (rs := [16]) (by kernel_rfl) (by simp) ?_
                      refine AllReadyH.cons (o := { dst := some 118, op := Op.call { callee := Callee.value (Operand.func 25), args := #[Operand.tmp 117], argTypes := #[24] }, type := 50, pos := "wide.go:65", after := #[{ on := 15, ground := Ground.data }, { on := 12, ground := Ground.chain }, { on := 12, ground := Ground.guard }], guard := some (12, true) }) rfl (fun K hK => ?_) (AllReadyH.nil)
                      go_simp
                      go_at_call 25
                      refine (lkeys_is w.heap.size _ N D _ HDB.out HN.out).mono ?_
                      rintro e k85 ⟨gk2, rfl, hK2, h⟩
                      have hk : Below k84.heap.size k84 k85 := HK9 h
                      have hz := h.size
                      try simp at hz
                      replace HDA := Lib.hid (Dc.below HDA.out hk)
                      replace HDB := Lib.hid (Dc.below HDB.out hk)
                      replace HEA := Lib.hid (ownsRow_below HEA.out hk)
                      replace HEB := Lib.hid (ownsRow_below HEB.out hk)
                      replace hb : Below w.heap.size w k85 := hb.trans (hk.mono hb.size)
                      clear hK2
                      clear h hk
                      try dsimp only
                      refine hK.out _ _ ?_ (fun hHeld => ?_)
                      · trivial
                      clear hK K
                      try simp only [Act.put, List.setIfInBounds_toArray, List.set_cons_zero, List.set_cons_succ]
                      refine wpAnyH_take (i := 17) (oi := { dst := some 119, op := Op.call { callee := Callee.builtin Builtin.len, args := #[Operand.tmp 118], argTypes := #[50] }, type := 3, pos := "wide.go:65", after := #[{ on := 16, ground := Ground.data }, { on := 12, ground := Ground.guard }], guard := some (12, true) }) (v := .int .i64 (N : Int)) rfl (by kernel_rfl) (by kernel_rfl) (by kernel_rfl) (fun _ _ _ h => h) (Or.inl ⟨by rfl, fun w hSw => ?_⟩) (by assumption) ?_
                      · (try dsimp only at hSw)
                        go_simp
                      try simp only [Act.put, List.setIfInBounds_toArray, List.set_cons_zero, List.set_cons_succ]
                      refine wpAnyH_take (i := 18) (oi := { dst := some 120, op := Op.binOp BinOp.eql 3 (Operand.tmp 116) (Operand.tmp 119) 3, type := 4, pos := "wide.go:65", after := #[{ on := 14, ground := Ground.data }, { on := 17, ground := Ground.data }, { on := 12, ground := Ground.guard }], guard := some (12, true) }) (v := .bool true) rfl (by kernel_rfl) (by kernel_rfl) (by kernel_rfl) (fun _ _ _ h => h) (Or.inl ⟨by rfl, fun w hSw => ?_⟩) (by assumption) ?_
                      · (try dsimp only at hSw)
                        go_simp
                      try simp only [Act.put, List.setIfInBounds_toArray, List.set_cons_zero, List.set_cons_succ]
                      refine wpAnyH_take (i := 19) (oi := { dst := some 121, op := Op.pick (Operand.tmp 114) (Operand.tmp 120) (Operand.const (Value.bool false)), type := 4, pos := "wide.go:65", after := #[{ on := 12, ground := Ground.data }, { on := 18, ground := Ground.data }], guard := none }) (v := .bool true) rfl (by kernel_rfl) (by kernel_rfl) (by kernel_rfl) (fun _ _ _ h => h) (Or.inl ⟨by rfl, fun w hSw => ?_⟩) (by assumption) ?_
                      · (try dsimp only at hSw)
                        go_simp
                      try simp only [Act.put, List.setIfInBounds_toArray, List.set_cons_zero, List.set_cons_succ]
                      refine wpAnyH_ready (rs := [20]) (by kernel_rfl) (by simp) ?_
                      refine AllReadyH.cons (o := { dst := some 4, op := Op.assign (Operand.tmp 121), type := 4, pos := "wide.go:65", after := #[{ on := 19, ground := Ground.data }, { on := 16, ground := Ground.chain }, { on := 0, ground := Ground.phase }, { on := 1, ground := Ground.phase }, { on := 2, ground := Ground.phase }, { on := 3, ground := Ground.phase }, { on := 4, ground := Ground.phase }, { on := 5, ground := Ground.phase }, { on := 6, ground := Ground.phase }, { on := 7, ground := Ground.phase }, { on := 8, ground := Ground.phase }, { on := 9, ground := Ground.phase }, { on := 10, ground := Ground.phase }, { on := 11, ground := Ground.phase }, { on := 12, ground := Ground.phase }, { on := 13, ground := Ground.phase }, { on := 14, ground := Ground.phase }, { on := 15, ground := Ground.phase }, { on := 16, ground := Ground.phase }, { on := 17, ground := Ground.phase }, { on := 18, ground := Ground.phase }, { on := 19, ground := Ground.phase }], guard := none }) rfl (fun K hK => ?_) (AllReadyH.nil)
                      go_simp
                      refine hK.out _ _ ?_ (fun hHeld => ?_)
                      · trivial
                      clear hK K
                      try simp only [Act.put, List.setIfInBounds_toArray, List.set_cons_zero, List.set_cons_succ]
                      refine wpAnyH_done (by kernel_rfl) ?_ _
                      refine NoPanic.normal ?_
                      go_wp2
                      go_ret
                      exact ⟨by first | rfl | simp, hb⟩

set_option maxRecDepth 100000 in
theorem lifted (os : Os) (started : os.Started) (H : Type) (enc : TypeId × Value → H) :
    ReturnsInHanded {} Try.checked os 9 .any (Rows.docOrderSpec.pre6 enc Try.prog Try.f9 Rows.docOrderRow.domain false) (Rows.docOrderSpec.post enc Try.prog Try.f9 false true false false) := by
  refine returnsInHanded_of_change (C := Try.checked) own started (by kernel_rfl) Try.func9
    (ChangeSpec.witness6 (enc := enc) (C := Try.checked) false ⟨#[], #[.slice none 0 0, .int .i64 0], []⟩ 8 (by kernel_rfl) (by kernel_rfl) (by kernel_rfl) (by kernel_rfl)) ?_
  intro W base args ds gs before hval0 hW hcnd _
  have hval : ∀ (j : Nat) t v, Try.f9.params[j]? = some t → args[j]? = some v → Value.okWide Try.prog W .any base t v := hval0
  have hW' := hW
  obtain ⟨p, q, hA0, hV, rfl, hfz, hnd⟩ := hW
  have hA : DataW.TrodAll enc Try.prog W 0 (fun _ => true) true Try.f9.params.toList args.toList ds p := hA0
  have hA1 := hA
  rw [Try.params9] at hA hval
  obtain ⟨v0, vs0, d0, ds0, p0, q0, hargs, rfl, rfl, h0, r0⟩ := trodAll_cons hA
  obtain ⟨v1, vs1, d1, ds1, p1, q1, rfl, rfl, rfl, h1, r1⟩ := trodAll_cons r0
  obtain ⟨rfl, rfl, rfl⟩ := trodAll_nil r1
  obtain rfl : args = #[v0, v1] := by cases args; simp_all
  obtain ⟨rfl, rfl⟩ := trodVars_none hV
  obtain ⟨A0, c0, a0, rfl, w0, x0⟩ := open_strs (hval 0 50 v0 rfl rfl) h0
  obtain ⟨a1, rfl, rfl, rfl, w1⟩ := open_int Try.underlying3 (hval 1 3 v1 rfl rfl) h1
  clear hA0 hval0
  simp only [List.append_nil] at hW'
  try simp only [List.append_nil] at hA1
  refine (walk W A0 c0 a0 w0 x0 a1 w1).mono fun e W' ⟨he, hg⟩ => ?_
  subst he
  exact ⟨_, rfl, law_end Try.laidOut (by kernel_rfl) hW' hA1 hg rfl rfl rfl (trodAll_mk1 (shut_bool Try.underlying4 _))⟩

theorem over : Rows.docOrderRow.holds Try.pinned (OpenSpec.ofChange Rows.docOrderSpec) :=
  OpenClaim.holds_of_wide 9 Try.f9 rfl rfl rfl rfl rfl rfl rfl ⟨rfl, rfl, rfl, rfl, rfl⟩ rfl rfl rfl rfl rfl (by kernel_rfl) Try.func9 (by kernel_rfl)
    (of_decide_eq_true (by kernel_rfl)) (by unfold Func.isWrapper; first | (rw [if_pos (by decide +kernel)]; kernel_rfl) | (rw [if_neg (by decide +kernel)]; exact ⟨rfl, rfl⟩))
    (fun os started H enc _ => lifted os started H enc)

/-- the statement -/
theorem proved : Rows.DocOrderSaid := over
#print axioms proved
end Go.Proofs.Ytkgfbfopopmbhaa.docOrder
