/-
  A server's votes in memory: its box, its row of servers, what was said; New, Yes, No, Won, Lost.
  Lists have at most 1,000 servers.
-/
import Derived.Test.YtoekiencnbgmhaaC12Mid
import Derived.Test.YtoekiencnbgmhaaW10Rt
import Derived.Test.YtoekiencnbgmhaaV14Plain
namespace Go.Proofs.Ytoekiencnbgmhaa
open Go.RowKit Go.Deep
set_option maxRecDepth 100000

def sc14 (s : Int → Int) : List Value := [.int .i64 (s 0), .int .i64 (s 1), .int .i64 (s 2), .int .i64 (s 3), .int .i64 (s 4), .int .i64 (s 5), .int .i64 (s 6), .int .i64 (s 7)]
/-- votes at block g, whose row of servers is v -/
structure VB (B : Nat) (w : World) (g : Nat) (v : Value) (L : List Int) (s : Int → Int) : Prop where
  box : Rt w g 85 (v :: sc14 s)
  row : OwnZ B v L w
  base : B ≤ g
  apart : v.ownBlock ≠ some g
  ids : ∀ x ∈ L, 1 ≤ x ∧ x ≤ 7
  short : L.length ≤ 7
theorem VB.below {B : Nat} {w w' : World} {g : Nat} {v : Value} {L : List Int} {s : Int → Int} (h : VB B w g v L s) (hb : Below w.heap.size w w') : VB B w' g v L s :=
  ⟨h.box.below hb, h.row.below hb, h.base, h.apart, h.ids, h.short⟩
/-- another block of the world changes -/
theorem VB.other {B : Nat} {w w' : World} {g g' : Nat} {v : Value} {L : List Int} {s : Int → Int} (h : VB B w g v L s) (hb : w.grownBy w' (some g')) (hne : g ≠ g') (hv : v.ownBlock ≠ some g') : VB B w' g v L s :=
  ⟨h.box.grown hb hne, World.ownsRow.kept h.row hb (by cases e : v.ownBlock with
    | none => exact .inl rfl
    | some j => exact .inr (by rw [← e]; exact fun e2 => hv e2)), h.base, h.apart, h.ids, h.short⟩
/-- id has said x -/
theorem VB.said {B : Nat} {w : World} {g : Nat} {v : Value} {L : List Int} {s : Int → Int} (h : VB B w g v L s) {i : Int} (hi : i ∈ L) (x : Int) : VB B (w.setCell ⟨g, 1 + i.toNat, none⟩ (.int .i64 x)) g v L (upd14 s i x) := by
  have hr := h.ids i hi
  refine ⟨?_, World.ownsRow.kept h.row (setCell_grown w ⟨g, 1 + i.toNat, none⟩ _) ?_, h.base, h.apart, h.ids, h.short⟩
  · have h1 := h.box.set (1 + i.toNat) (.int .i64 x)
    have : i = 1 ∨ i = 2 ∨ i = 3 ∨ i = 4 ∨ i = 5 ∨ i = 6 ∨ i = 7 := by omega
    rcases this with rfl | rfl | rfl | rfl | rfl | rfl | rfl <;> exact h1
  · cases e : v.ownBlock with
    | none => exact .inl rfl
    | some j => exact .inr (by rw [← e]; exact fun e2 => h.apart e2)
theorem VB.parts {B : Nat} {w : World} {g : Nat} {v : Value} {L : List Int} {s : Int → Int} (h : VB B w g v L s) : ∃ A c, v = .slice A L.length c ∧ Ints w w.heap.size (.slice A L.length c) L ∧ w.cell? ⟨g, 0, none⟩ = some (.slice A L.length c) := by
  obtain ⟨A, c, rfl⟩ := h.row.slice
  exact ⟨A, c, rfl, Ints.of_own h.row, h.box.cell rfl⟩
theorem VB.word {B : Nat} {w : World} {g : Nat} {v : Value} {L : List Int} {s : Int → Int} (h : VB B w g v L s) {i : Int} (h0 : 0 ≤ i) (h7 : i ≤ 7) : w.cell? ⟨g, 1 + i.toNat, none⟩ = some (.int .i64 (s i)) := by
  have : i = 0 ∨ i = 1 ∨ i = 2 ∨ i = 3 ∨ i = 4 ∨ i = 5 ∨ i = 6 ∨ i = 7 := by omega
  rcases this with rfl | rfl | rfl | rfl | rfl | rfl | rfl | rfl <;> exact h.box.cell rfl
theorem takes14_no {L : List Int} {s : Int → Int} {i : Int} (h : L.contains i = false) : takes14 L s i = false := by unfold takes14; rw [h]; rfl
theorem takes14_no2 {L : List Int} {s : Int → Int} {i : Int} (h : s i ≠ 0) : takes14 L s i = false := by unfold takes14; rw [decide_eq_false h, Bool.and_false]
theorem takes14_yes {L : List Int} {s : Int → Int} {i : Int} (h : L.contains i = true) (h0 : s i = 0) : takes14 L s i = true := by unfold takes14; rw [h, decide_eq_true h0]; rfl
theorem take14_not {L : List Int} {s : Int → Int} {i : Int} (x : Int) (h : takes14 L s i = false) : take14 L s i x = s := by unfold take14; rw [h]; rfl
theorem take14_do {L : List Int} {s : Int → Int} {i : Int} (x : Int) (h : takes14 L s i = true) : take14 L s i x = upd14 s i x := by unfold take14; rw [if_pos h]
set_option maxHeartbeats 400000 in
theorem vtake_any {B : Nat} {w : World} {g : Nat} {v : Value} {L : List Int} {s : Int → Int} (h : VB B w g v L s) (i x : Int) :
    Calls Try.prog 60 #[.pointer (some ⟨g, 0, none⟩), .int .i64 i, .int .i64 x] w fun e w' => e = .returned (.bool (takes14 L s i)) ∧ VB B w' g v L (take14 L s i x) ∧ w.grownBy w' (some g) := by
  obtain ⟨A, c, rfl, hI, c0⟩ := h.parts
  have hl : L.length ≤ 1000 := by have := h.short; omega
  have hh := has12_w A c _ L i w hI hl
  have HV := Lib.hid h
  have f0 := h.box.frz
  cases hc : L.contains i with
  | false =>
    rw [hc] at hh
    have HT := Lib.hid (takes14_no (s := s) hc)
    rw [HT.out, take14_not x HT.out]
    clear h hI hl hc HT f0
    go_enter Try.func60, Try.ntmps60
    go_wp2_with fail
    refine hh.mono ?_
    rintro e w' ⟨rfl, rfl⟩
    go_wp2
    go_ret
    exact ⟨rfl, HV.out, grownBy_refl _ _⟩
  | true =>
    rw [hc] at hh
    have hm : i ∈ L := by simpa using hc
    have hr := h.ids i hm
    have cw := h.word (i := i) (by omega) hr.2
    obtain ⟨k, hk⟩ : ∃ k : Nat, i = (k : Int) := ⟨i.toNat, by omega⟩
    obtain ⟨y, hy⟩ : ∃ y, s i = y := ⟨_, rfl⟩
    rw [hy, hk, Int.toNat_natCast] at cw
    have f1 := f0 (1 + k)
    have hk7 : k ≤ 7 := by omega
    by_cases h0 : y = 0
    · have HT := Lib.hid (takes14_yes (s := s) hc (by rw [hy]; exact h0))
      have hs := h.said hm x
      rw [hk, Int.toNat_natCast] at hs
      rw [HT.out, take14_do x HT.out]
      have HS := Lib.hid hs
      subst h0
      have hi8 : (k : Int) < 8 := by omega
      subst hk
      clear h hI hl hc HT f0 hm hr hy hs HV
      go_enter Try.func60, Try.ntmps60
      go_wp2_with fail
      refine hh.mono ?_
      rintro e w' ⟨rfl, rfl⟩
      go_wp2
      go_ret
      exact ⟨rfl, HS.out, setCell_grown _ _ _⟩
    · have HT := Lib.hid (takes14_no2 (L := L) (s := s) (i := i) (by rw [hy]; exact h0))
      rw [HT.out, take14_not x HT.out]
      have hi8 : (k : Int) < 8 := by omega
      subst hk
      clear h hI hl hc HT f0 hm hr hy
      go_enter Try.func60, Try.ntmps60
      go_wp2_with fail
      refine hh.mono ?_
      rintro e w' ⟨rfl, rfl⟩
      go_wp2
      go_ret
      exact ⟨rfl, HV.out, grownBy_refl _ _⟩
theorem vyes_any {B : Nat} {w : World} {g : Nat} {v : Value} {L : List Int} {s : Int → Int} (h : VB B w g v L s) (i : Int) :
    Calls Try.prog 31 #[.pointer (some ⟨g, 0, none⟩), .int .i64 i] w fun e w' => e = .returned (.bool (takes14 L s i)) ∧ VB B w' g v L (take14 L s i 1) ∧ w.grownBy w' (some g) := by
  have ht := vtake_any h i 1
  clear h
  go_enter Try.func31, Try.ntmps31
  go_wp2_with fail
  refine ht.mono ?_
  rintro e w' ⟨rfl, h1, h2⟩
  go_wp2
  go_ret
  exact ⟨rfl, h1, h2⟩
theorem vno_any {B : Nat} {w : World} {g : Nat} {v : Value} {L : List Int} {s : Int → Int} (h : VB B w g v L s) (i : Int) :
    Calls Try.prog 32 #[.pointer (some ⟨g, 0, none⟩), .int .i64 i] w fun e w' => e = .returned (.bool (takes14 L s i)) ∧ VB B w' g v L (take14 L s i 2) ∧ w.grownBy w' (some g) := by
  have ht := vtake_any h i 2
  clear h
  go_enter Try.func32, Try.ntmps32
  go_wp2_with fail
  refine ht.mono ?_
  rintro e w' ⟨rfl, h1, h2⟩
  go_wp2
  go_ret
  exact ⟨rfl, h1, h2⟩
set_option maxHeartbeats 1000000 in
theorem vwho_any {B : Nat} {w : World} {g : Nat} {v : Value} {L : List Int} {s : Int → Int} (h : VB B w g v L s) (x : Int) :
    Calls Try.prog 62 #[.pointer (some ⟨g, 0, none⟩), .int .i64 x] w fun e w' => ∃ u, e = .returned u ∧ OwnZ w.heap.size u (L.filter fun i => decide (s i = x)) w' ∧ Below w.heap.size w w' := by
  obtain ⟨A, c, rfl, hI, c0⟩ := h.parts
  have hl : L.length ≤ 7 := h.short
  have HV := Lib.hid h
  have hg := h.box.lt
  obtain ⟨n, hn⟩ : ∃ n, L.length = n := ⟨_, rfl⟩
  rw [hn] at hI c0 hl
  have HI := Lib.hid hI
  have HN := Lib.hid hn
  clear h hI
  go_enter Try.func62, Try.ntmps62
  go_wp2_with fail
  go_loopw [5, 13] (fun u i wr => ∃ k : Nat, k ≤ n ∧ i = .int .i64 k ∧ OwnZ w.heap.size u ((L.take k).filter fun i => decide (s i = x)) wr ∧ Below w.heap.size w wr) (fun _ i _ => n - (intOf i).toNat)
  case atStart => exact ⟨0, Nat.zero_le _, rfl, OwnZ.nil _ _, Below.refl _ _⟩
  case round =>
    obtain ⟨k, hk, rfl, ho, hb⟩ := hrel
    have HO := Lib.hid ho
    have HB := Lib.hid hb
    by_cases hlt : k < n
    · have hkl : k < L.length := by rw [HN.out]; exact hlt
      obtain ⟨g2, o, hA, hg2, hcell⟩ := HI.out.at_ k hkl
      subst hA
      have hc1 : wr.cell? ⟨g2, o + k, none⟩ = some (.int .i64 L[k]) := (HB.out.cell (p := ⟨g2, o + k, none⟩) hg2).trans hcell
      have hr := HV.out.ids L[k] (List.getElem_mem hkl)
      have hts : (L.take (k + 1)).filter (fun i => decide (s i = x)) = (L.take k).filter (fun i => decide (s i = x)) ++ (if s L[k] = x then [L[k]] else []) := by
        rw [List.take_succ_eq_append_getElem hkl, List.filter_append]
        congr 1
        by_cases e : s L[k] = x <;> simp [e]
      have cw := (HB.out.cell (p := ⟨g, 1 + L[k].toNat, none⟩) hg).trans (HV.out.word (i := L[k]) (by omega) hr.2)
      obtain ⟨j, hj⟩ : ∃ j, L[k] = j := ⟨_, rfl⟩
      rw [hj] at hc1 hr hts cw
      obtain ⟨q, hq⟩ : ∃ q : Nat, j = (q : Int) := ⟨j.toNat, by omega⟩
      obtain ⟨y, hy⟩ : ∃ y, s j = y := ⟨_, rfl⟩
      rw [hy] at hts cw
      subst hq
      rw [Int.toNat_natCast] at cw
      have hq8 : (q : Int) < 8 := by omega
      have hq0 : q < 8 := by omega
      by_cases he : y = x
      · subst he
        rw [if_pos rfl] at hts
        have HTS := Lib.hid hts
        have hll : ((L.take k).filter fun i => decide (s i = y)).length + 1 ≤ 1000000 := by
          have := List.length_filter_le (fun i => decide (s i = y)) (L.take k)
          have := List.length_take_le k L
          omega
        obtain ⟨lst, hlst⟩ : ∃ l, (L.take k).filter (fun i => decide (s i = y)) = l := ⟨_, rfl⟩
        rw [hlst] at ho hts hll
        obtain ⟨Au, cu, hu⟩ := ho.slice
        obtain ⟨m, hm⟩ : ∃ m, lst.length = m := ⟨_, rfl⟩
        rw [hm] at hu hll
        subst hu
        obtain ⟨wa, hwa⟩ : ∃ k, wr.alloc (.cells #[.int .i64 (q : Int)] 3) = k := ⟨_, rfl⟩
        have hba : Below wr.heap.size wr wa := by rw [← hwa]; exact below_new12 wr _
        have hoa := ho.below hba
        have hia : Ints wa (wr.heap.size + 1) (.slice (some ⟨wr.heap.size, 0, none⟩) 1 1) [(q : Int)] := by rw [← hwa]; exact ints_new wr _ _ [(q : Int)] rfl
        have hbb := hb.trans (hba.mono hb.size)
        have HTS := Lib.hid hts
        have HLL := Lib.hid hll
        have HM := Lib.hid hm
        have HOA := Lib.hid hoa
        have HIA := Lib.hid hia
        have HBB := Lib.hid hbb
        clear hts ho hb hcell hj hr hy hkl hll hlst hm hoa hia hbb hba HO HB
        go_wp2_with (at_builtin; refine wpList_append_ints rfl _ _ rfl w.heap.size (wr.heap.size + 1) _ _ _ [(q : Int)] rfl HOA.out rfl HIA.out ?x1 ?x2 ?_)
        case x1 => have := HLL.out; have := HM.out; show lst.length + 1 ≤ _; omega
        case x2 => exact HBB.out.size
        intro u5 w5 ho5 hb5
        go_wp2
        go_roundw
        case rel => exact ⟨k + 1, by omega, by go_num, by rw [HTS.out]; exact ho5, HBB.out.trans hb5⟩
        case measure => simp [intOf]; omega
      · rw [if_neg he, List.append_nil] at hts
        have HTS := Lib.hid hts
        clear hts ho hb hcell hj hr hy hkl
        go_wp2
        go_roundw
        case rel => exact ⟨k + 1, by omega, by go_num, by rw [HTS.out]; exact HO.out, HB.out⟩
        case measure => simp [intOf]; omega
    · have hkn : k = n := by omega
      have hfin : L.take k = L := List.take_of_length_le (by rw [HN.out]; omega)
      have q1 := HO.out
      rw [hfin] at q1
      have HQ := Lib.hid q1
      clear q1 ho hb hfin
      go_wp2
      go_ret
      exact ⟨_, rfl, HQ.out, HB.out⟩
theorem clone14_w (A : Option Addr) (c B : Nat) (L : List Int) (w : World) (h : Ints w B (.slice A L.length c) L) (hl : L.length ≤ 1000) :
    Calls Try.prog 59 #[.slice A L.length c] w fun e w' => ∃ v, e = .returned v ∧ OwnZ w.heap.size v L w' ∧ Below w.heap.size w w' := by
  by_cases h0 : 0 < L.length
  · obtain ⟨g, o, rfl, _, _⟩ := h.at_ 0 h0
    refine (Try.slices_Clone_int g o L.length c L w (Nat.le_refl _) (by omega) (fun j hj => ?_)).mono ?_
    · obtain ⟨g', o', e, _, hc⟩ := h.at_ j hj
      injection e with e; injection e with e1 e2; subst e1; subst e2
      rw [hc]; simp [hj]
    · rintro e w' ⟨v, rfl, h1, _, h2⟩
      rw [List.take_length] at h1
      exact ⟨v, rfl, h1, h2⟩
  · have h1 : L = [] := List.eq_nil_of_length_eq_zero (by omega)
    subst h1
    cases A with
    | none =>
      refine (Try.slices_Clone_int_nil 0 c w).mono ?_
      rintro e w' ⟨rfl, rfl⟩
      exact ⟨_, rfl, OwnZ.nil _ _, Below.refl _ _⟩
    | some a =>
      refine (Try.slices_Clone_int_zero a c w).mono ?_
      rintro e w' ⟨v, rfl, h1, _, h2⟩
      exact ⟨v, rfl, h1, h2⟩
set_option maxHeartbeats 400000 in
theorem vnew_any (A : Option Addr) (c B : Nat) (L : List Int) (w : World) (h : Ints w B (.slice A L.length c) L) (hl : L.length ≤ 1000) :
    Calls Try.prog 28 #[.slice A L.length c] w fun e w' => ∃ g v, e = .returned (.pointer (some ⟨g, 0, none⟩)) ∧ VB w.heap.size w' g v (if may12 L = true then L else []) (fun _ => 0) ∧ Below w.heap.size w w' := by
  have hm := may12_w A c B L w h hl
  cases hb : may12 L with
  | false =>
    rw [hb] at hm
    clear h
    go_enter Try.func28, Try.ntmps28
    go_wp2_with fail
    refine hm.mono ?_
    rintro e w' ⟨rfl, rfl⟩
    go_wp2
    go_ret
    exact ⟨w.heap.size, rfl, ⟨.slice none 0 0, ⟨Rt.new w _ (.slice none 0 0 :: sc14 fun _ => 0), OwnZ.nil _ _, Nat.le_refl _, fun e => (by cases e), fun x hx => (by cases hx), by decide⟩⟩, below_new12 w _⟩
  | true =>
    rw [hb] at hm
    have hc := clone14_w A c B L w h hl
    go_enter Try.func28, Try.ntmps28
    go_wp2_with fail
    refine hm.mono ?_
    rintro e w' ⟨rfl, rfl⟩
    go_wp2_with fail
    refine hc.mono ?_
    rintro e w1 ⟨v, rfl, ho, hb1⟩
    obtain ⟨Av, cv, rfl⟩ := ho.slice
    have HO := Lib.hid ho
    have HB1 := Lib.hid hb1
    have HM := Lib.hid hb
    clear hm hc ho hb1 hb
    go_wp2
    go_ret
    have hn := below_new12 w1 (.cells (.slice Av L.length cv :: sc14 fun _ => 0).toArray 85)
    refine ⟨w1.heap.size, rfl, ⟨.slice Av L.length cv, ⟨Rt.new w1 _ (.slice Av L.length cv :: sc14 fun _ => 0), ?_, HB1.out.size, fun e => ?_, fun x hx => ?_, ?_⟩⟩, HB1.out.trans (hn.mono HB1.out.size)⟩
    · exact HO.out.below hn
    · have := (World.ownsRow.lt HO.out _ e).2
      omega
    · have := mayF_mem (may12_F HM.out) x hx
      omega
    · exact may12_len HM.out
end Go.Proofs.Ytoekiencnbgmhaa
