/-
  Package disk's Loose, Read, Sync, Swap and Append.
  The disk has at most 100,000 files and was called at most 1,000,000 times; a name has at most 2^47 bytes, what is handed in has at most 2^47.
-/
import Derived.Test.YtbdengcblncfmaaD9Put
import Derived.Test.YtbdengcblncfmaaD9Rows
import Derived.Test.YtbdengcblncfmaaWAppend
set_option linter.unusedSimpArgs false
set_option linter.unusedVariables false
namespace Go.Proofs.Ytbdengcblncfmaa
open Go.RowKit
set_option maxRecDepth 100000

theorem find_get {n : ByteArray} {l : List Fil} {ps : List (Fil × Value)} (hl : ps.map (·.1) = l) : getF n l = (ps.find? fun p => decide (p.1.name = n)).map (·.1) := by rw [← hl]; exact find_map9 n ps
theorem find_in {n : ByteArray} {ps : List (Fil × Value)} {p : Fil × Value} (h : (ps.find? fun p => decide (p.1.name = n)) = some p) : p ∈ ps ∧ p.1.name = n := ⟨List.mem_of_find?_eq_some h, by simpa using List.find?_some h⟩
theorem put9_from {w W : World} {g : Nat} {m : Option Nat} {ps : List (Fil × Value)} {c : Nat} (f : Fil) (A : Option Addr) (n2 c2 : Nat) (hb : Box9 w g m c) (hm : Map9 w m ps) (hw : Below w.heap.size w W) (hs : ps.Pairwise fun x y => ltK x.1.name y.1.name = true) (hl : ps.length ≤ 100000) (hn : f.name.size ≤ 10) :
    Calls Try.prog 29 #[.pointer (some ⟨g, 0, none⟩), .string f.name, .agg #[.slice A n2 c2, .int .i64 ((f.fast : Nat) : Int), .bool f.there]] W fun e w' => e = .returned (.tuple #[]) ∧ Below w.heap.size w W ∧ Box9 W g m c ∧ Map9 W m ps ∧ ∃ b, Box9 w' g (some b) c ∧ Map9 w' (some b) (setP (f, .slice A n2 c2) ps) ∧ (m = some b ∨ (m = none ∧ W.heap.size ≤ b)) ∧ Off (fun k => k = g ∨ m = some k) W w' := by
  refine (put9_any g m ps c f A n2 c2 W (hb.below hw) (hm.below hw) hs hl hn).mono ?_
  rintro e k ⟨he, h⟩
  exact ⟨he, hw, hb.below hw, hm.below hw, h⟩
theorem put9_off {w W : World} {S : Nat → Prop} {g : Nat} {m : Option Nat} {ps : List (Fil × Value)} {c : Nat} (f : Fil) (A : Option Addr) (n2 c2 : Nat) (hb : Box9 w g m c) (hm : Map9 w m ps) (hw : Off S w W) (hg : ¬ S g) (hmS : ∀ b, m = some b → ¬ S b) (hs : ps.Pairwise fun x y => ltK x.1.name y.1.name = true) (hl : ps.length ≤ 100000) (hn : f.name.size ≤ 10) :
    Calls Try.prog 29 #[.pointer (some ⟨g, 0, none⟩), .string f.name, .agg #[.slice A n2 c2, .int .i64 ((f.fast : Nat) : Int), .bool f.there]] W fun e w' => e = .returned (.tuple #[]) ∧ Off S w W ∧ Box9 W g m c ∧ Map9 W m ps ∧ ∃ b, Box9 w' g (some b) c ∧ Map9 w' (some b) (setP (f, .slice A n2 c2) ps) ∧ (m = some b ∨ (m = none ∧ W.heap.size ≤ b)) ∧ Off (fun k => k = g ∨ m = some k) W w' := by
  refine (put9_any g m ps c f A n2 c2 W (hb.off hw hg) (hm.off hw hmS) hs hl hn).mono ?_
  rintro e k ⟨he, h⟩
  exact ⟨he, hw, hb.off hw hg, hm.off hw hmS, h⟩
set_option maxHeartbeats 1000000 in
theorem loose9_disk (S : Nat → Prop) (g : Nat) (l : List Fil) (c : Nat) (n : ByteArray) (w : World) (h : PD w S g l c) (hn : n.size ≤ maxLen) :
    Calls Try.prog 25 #[.pointer (some ⟨g, 0, none⟩), .string n] w fun e w' => e = .returned (.int .i64 (loose9 n l)) ∧ Below w.heap.size w w' := by
  obtain ⟨m, ps, h1, h2, h3, h4, h5, h6, h7, h8, h9, h10⟩ := h
  have hc0 := h3.cell0
  have hlk := look9 (n := n) false h5 hn
  have hfg := find_get (n := n) h1
  obtain ⟨r, hr⟩ : ∃ r, loose9 n l = r := ⟨_, rfl⟩
  rw [hr]
  unfold loose9 at hr
  rw [hfg] at hr
  unfold lookV at hlk
  cases hf : ps.find? (fun p => decide (p.1.name = n)) with
  | none =>
    rw [hf] at hr hlk
    have hr : (0 : Int) = r := hr
    subst hr
    simp only [Bool.false_eq_true, if_false] at hlk
    clear hfg hf h5 h3 hn
    go_enter Try.func25, Try.ntmps25
    go_wp2_with fail
    refine (loose9_any none 0 0 0 false _ (by omega) ⟨by omega, by omega⟩).mono ?_
    rintro e k ⟨rfl, hk⟩
    go_wp2
    go_ret
    exact ⟨rfl, hk⟩
  | some p =>
    rw [hf] at hr hlk
    obtain ⟨hp, hpn⟩ := find_in hf
    have hgd := h9 p.1 (by rw [← h1]; exact List.mem_map_of_mem hp)
    obtain ⟨A, ca, hv⟩ := own_slice (h6 p hp).1
    have hr : (p.1.b.length : Int) - p.1.fast = r := hr
    simp only [Bool.false_eq_true, if_false] at hlk
    unfold fileV at hlk
    rw [hv] at hlk
    obtain ⟨q, hq⟩ : ∃ q, p.1.b.length = q := ⟨_, rfl⟩
    obtain ⟨fa, hfa⟩ : ∃ fa, p.1.fast = fa := ⟨_, rfl⟩
    obtain ⟨th, hth⟩ : ∃ th, p.1.there = th := ⟨_, rfl⟩
    rw [hq, hfa, hth] at hlk
    rw [hq, hfa] at hr
    have hg1 := hgd.2.1
    have hg2 := hgd.2.2.1
    rw [hq, hfa] at hg1
    rw [hq] at hg2
    clear hfg hf h5 h3 hn h1 h6 h7 h8 h9 h10 hgd hq hfa hth hv
    go_enter Try.func25, Try.ntmps25
    go_wp2_with fail
    refine (loose9_any A q ca fa th _ (by omega) ⟨by omega, by omega⟩).mono ?_
    rintro e k ⟨rfl, hk⟩
    go_wp2
    go_ret
    exact ⟨by rw [← hr]; rfl, hk⟩
set_option maxHeartbeats 1000000 in
theorem read9_no (S : Nat → Prop) (g : Nat) (l : List Fil) (c : Nat) (n : ByteArray) (w : World) (h : PD w S g l c) (hn : n.size ≤ maxLen) (hg : getF n l = none) :
    Calls Try.prog 20 #[.pointer (some ⟨g, 0, none⟩), .string n] w fun e w' => e = .returned (.tuple #[.slice none 0 0, .int .i64 13]) ∧ Below w.heap.size w w' := by
  obtain ⟨m, ps, h1, h2, h3, h4, h5, h6, h7, h8, h9, h10⟩ := h
  have hc0 := h3.cell0
  have hlk := look9 (n := n) true h5 hn
  have hfg := find_get (n := n) h1
  unfold lookV at hlk
  cases hf : ps.find? (fun p => decide (p.1.name = n)) with
  | none =>
    have ha : (ps.any fun p => decide (p.1.name = n)) = false := List.any_eq_false.2 (List.find?_eq_none.1 hf)
    rw [hf, ha] at hlk
    simp only [if_true] at hlk
    clear hfg hf h5 h3 hn ha hg
    go_enter Try.func20, Try.ntmps20
    go_wp2
    exact bodyPost_ret (v := .tuple #[.slice none 0 0, .int .i64 13]) (by simp [results, Try.results20, go_sem]) rfl ⟨rfl, below_new _ _⟩
  | some p => rw [hfg, hf] at hg; cases hg
set_option maxHeartbeats 1000000 in
theorem read9_yes (S : Nat → Prop) (g : Nat) (l : List Fil) (c : Nat) (n : ByteArray) (f : Fil) (w : World) (h : PD w S g l c) (hn : n.size ≤ maxLen) (hg : getF n l = some f) :
    Calls Try.prog 20 #[.pointer (some ⟨g, 0, none⟩), .string n] w fun e w' => ∃ v, e = .returned (.tuple #[v, .int .i64 0]) ∧ OwnB w.heap.size v f.b w' ∧ Below w.heap.size w w' := by
  obtain ⟨m, ps, h1, h2, h3, h4, h5, h6, h7, h8, h9, h10⟩ := h
  have hc0 := h3.cell0
  have hlk := look9 (n := n) true h5 hn
  have hfg := find_get (n := n) h1
  unfold lookV at hlk
  cases hf : ps.find? (fun p => decide (p.1.name = n)) with
  | none => rw [hfg, hf] at hg; cases hg
  | some p =>
    obtain ⟨hp, hpn⟩ := find_in hf
    have ha : (ps.any fun p => decide (p.1.name = n)) = true := List.any_eq_true.2 ⟨p, hp, by simpa using hpn⟩
    rw [hfg, hf] at hg
    have hg : p.1 = f := Option.some.inj hg
    rw [hf, ha] at hlk
    simp only [if_true] at hlk
    have hgd := h9 p.1 (by rw [← h1]; exact List.mem_map_of_mem hp)
    have ho := (h6 p hp).1
    obtain ⟨A, ca, hv⟩ := own_slice ho
    unfold fileV at hlk
    rw [hv] at hlk ho
    rw [hg] at hlk ho hgd
    obtain ⟨q, hq⟩ : ∃ q, f.b.length = q := ⟨_, rfl⟩
    obtain ⟨fa, hfa⟩ : ∃ fa, f.fast = fa := ⟨_, rfl⟩
    obtain ⟨th, hth⟩ : ∃ th, f.there = th := ⟨_, rfl⟩
    rw [hq, hfa, hth] at hlk
    have hg2 := hgd.2.2.1
    rw [hq] at hg2 ho
    have HO := Lib.hid ho
    have HQ := Lib.hid hq
    clear hfg hf h5 h3 hn h1 h6 h7 h8 h9 h10 hgd hq hfa hth hv ha hg ho
    go_enter Try.func20, Try.ntmps20
    go_wp2_with fail
    refine (clone9_is A q ca (B := w.heap.size) f.b _ ((Byt.of_own HO.out).below (below_new _ _) (Nat.le_refl _)) (by rw [HQ.out]; omega)).mono ?_
    rintro e k ⟨v, rfl, hv, hk⟩
    have hb : Below w.heap.size w k := (below_new _ _).trans (hk.mono (by simp))
    have hv2 : OwnB w.heap.size v f.b k := hv.down (by simp)
    clear hk hv
    go_wp2
    exact bodyPost_ret (v := .tuple #[v, .int .i64 0]) (by simp [results, Try.results20, go_sem]) rfl ⟨v, rfl, hv2, hb⟩
set_option maxHeartbeats 1000000 in
theorem sync9_disk (S : Nat → Prop) (g : Nat) (l : List Fil) (c : Nat) (n : ByteArray) (w : World) (h : PD w S g l c) (hn : n.size ≤ maxLen) (hc : c ≤ 1000000) (hl : l.length ≤ 100000) :
    Calls Try.prog 16 #[.pointer (some ⟨g, 0, none⟩), .string n] w (Did S g c (sync9 n l) w) := by
  have hH := h
  obtain ⟨m, ps, h1, h2, h3, h4, h5, h6, h7, h8, h9, h10⟩ := h
  have hc0 := h3.cell0
  have hc1 := h3.cell1
  have hfz := h3.frz 1
  have hoc : Off (fun k => k = g) w (w.setCell ⟨g, 1, none⟩ (.int .i64 ((c + 1 : Nat) : Int))) := (Off.refl _ w).set (.inl rfl)
  have hmne : ∀ b, m = some b → ¬ b = g := fun b hb e => by
    subst hb
    exact h3.ne_map (show w.ownsMap Try.prog 9 RH b ps.length (DD ps) from h5) e.symm
  have hm1 := h5.off hoc hmne
  have hb1 := h3.set1 (c + 1)
  have hrow : ∀ p ∈ ps, OwnB 0 p.2 p.1.b (w.setCell ⟨g, 1, none⟩ (.int .i64 ((c + 1 : Nat) : Int))) := fun p hp => rows_off9 h3 h5 (hoc.mono fun k hk => .inl (.inl hk)) (h6 p hp).1
  have hoS : Off S w (w.setCell ⟨g, 1, none⟩ (.int .i64 ((c + 1 : Nat) : Int))) := hoc.mono fun k hk => by subst hk; exact .inl h2
  have hcnt : ∀ {w' : World}, Below w.heap.size (w.setCell ⟨g, 1, none⟩ (.int .i64 ((c + 1 : Nat) : Int))) w' → PD w' (Grw S w w') g l (c + 1) ∧ Off S w w' := fun {w'} hb => hH.count hb
  have hz1 : (w.setCell ⟨g, 1, none⟩ (.int .i64 ((c + 1 : Nat) : Int))).heap.size = w.heap.size := by simp [World.setCell]
  rw [Int.natCast_add, Int.natCast_one] at hm1 hb1 hrow hoS hcnt hz1
  obtain ⟨W1, hW1⟩ : ∃ W1, w.setCell ⟨g, 1, none⟩ (.int .i64 ((c : Int) + 1)) = W1 := ⟨_, rfl⟩
  rw [hW1] at hm1 hb1 hrow hoS hcnt hz1
  have HOS := Lib.hid hoS
  have HROW := Lib.hid hrow
  have HM1 := Lib.hid hm1
  have HB1 := Lib.hid hb1
  have HZ1 := Lib.hid hz1
  have HCNT : Hid (∀ {w' : World}, Below w.heap.size W1 w' → PD w' (Grw S w w') g l (c + 1) ∧ Off S w w') := Lib.hid hcnt
  have HSM := Lib.hid h4
  have hd0 := hb1.cell0
  have HB3 := Lib.hid h3
  have hltg := hb1.lt
  have HRS : Hid (∀ p ∈ ps, ∀ j, p.2.ownBlock = some j → S j) := Lib.hid fun p hp => (h6 p hp).2
  have HPW : Hid (ps.Pairwise Apart9) := Lib.hid h7
  have HLT := Lib.hid h10
  have HSO := Lib.hid h8
  have HGD := Lib.hid h9
  have HSG := Lib.hid h2
  have HSS := Lib.hid (sorted_ps h1 h8)
  have hfg := find_get (n := n) h1
  have HL1 := Lib.hid h1
  have hpl : ps.length = l.length := by rw [← h1, List.length_map]
  rw [← hpl] at hl
  have HHL := Lib.hid hl
  have h1 := 0
  clear hoS hrow hz1 hb1 hoc hcnt hmne hH h3 h4 h5 h7 h8 h10 h2 h1 hl hpl
  have hlk := look9 (n := n) true hm1 hn
  unfold lookV at hlk
  cases hf : ps.find? (fun p => decide (p.1.name = n)) with
  | none =>
    have ha : (ps.any fun p => decide (p.1.name = n)) = false := List.any_eq_false.2 (List.find?_eq_none.1 hf)
    rw [hf, ha] at hlk
    simp only [if_true] at hlk
    have hsy : sync9 n l = (13, l) := by unfold sync9; rw [hfg, hf]; rfl
    have HSY := Lib.hid hsy
    clear hfg hf hn ha hsy h6 h9 hm1
    go_enter Try.func16, Try.ntmps16
    go_wp2
    go_ret
    unfold Did
    rw [HSY.out]
    exact ⟨rfl, HCNT.out (by rw [← HZ1.out]; exact below_new _ _)⟩
  | some p =>
    obtain ⟨hp, hpn⟩ := find_in hf
    have ha : (ps.any fun p => decide (p.1.name = n)) = true := List.any_eq_true.2 ⟨p, hp, by simpa using hpn⟩
    have hsy : sync9 n l = (0, setF ⟨n, p.1.b, p.1.b.length, true⟩ l) := by unfold sync9; rw [hfg, hf]; rfl
    rw [hf, ha] at hlk
    simp only [if_true] at hlk
    have hgd := HGD.out p.1 (by rw [← HL1.out]; exact List.mem_map_of_mem hp)
    have ho := HROW.out p hp
    obtain ⟨A, ca, hv⟩ := own_slice ho
    unfold fileV at hlk
    obtain ⟨bs, hbs⟩ : ∃ bs, p.1.b = bs := ⟨_, rfl⟩
    rw [hbs] at hv hsy ho
    obtain ⟨q, hq⟩ : ∃ q, bs.length = q := ⟨_, rfl⟩
    rw [hq] at hv hsy
    have HV := Lib.hid hv
    rw [hv] at hlk
    rw [hv] at ho
    obtain ⟨fa, hfa⟩ : ∃ fa, p.1.fast = fa := ⟨_, rfl⟩
    obtain ⟨th, hth⟩ : ∃ th, p.1.there = th := ⟨_, rfl⟩
    rw [hfa, hth] at hlk
    have HGF : Hid (Good9 ⟨n, bs, q, true⟩) := Lib.hid ⟨by rw [← hpn]; exact hgd.1, by rw [hq]; exact Nat.le_refl _, by rw [← hbs]; exact hgd.2.2.1, fun h => by cases h⟩
    have hnz : n.size ≤ 10 := (goodN_size (by rw [← hpn]; exact hgd.1)).2
    have HSY := Lib.hid hsy
    have HO := Lib.hid ho
    have HP := Lib.hid hp
    have HPN := Lib.hid hpn
    have hbx := Blk.new W1 #[.slice A q ca, .int .i64 ((fa : Nat) : Int), .bool th] 59
    have x1 := hbx.frz 1
    have x2 := hbx.frz 2
    have y0 := hbx.cell (j := 0) rfl
    have y1 := hbx.cell (j := 1) rfl
    have y2 := hbx.cell (j := 2) rfl
    clear hfg hf hn ha hsy h6 h9 hm1 hbs hgd hq hfa hth hv hpn ho hp hbx
    go_enter Try.func16, Try.ntmps16
    go_wp2_with fail
    refine (put9_from ⟨n, bs, q, true⟩ A q ca HB1.out HM1.out ?hbW HSS.out HHL.out hnz).mono ?_
    case hbW => repeat' (first | with_reducible exact Below.refl _ _ | (with_reducible refine Below.alloc ?_ ?_ _) | (with_reducible refine Below.setCell ?_ ?_ _) | exact (by first | (simp; done) | (simp; omega) | omega))
    rintro e k ⟨rfl, hbW, hbx, hmx, b, hbk, hmk, hor, hok⟩
    have hfin := PD.done (S := S) (w := w) HL1.out HSG.out HSM.out HRS.out HPW.out HSO.out HGD.out HLT.out (HOS.out.then_ hbW) hbx hmx (fun p hp _ => (HROW.out p hp).below hbW) (OwnB.below HO.out hbW) (fun j hj => .inl (HRS.out p HP.out j (by rw [HV.out]; exact hj)))
      (fun x hx hne => by
        have := apart_of HPW.out HP.out hx (by rw [HPN.out]; exact hne)
        unfold Apart9 at this; rw [HV.out] at this; exact this) HGF.out hbk hmk hor hok
    have HFIN := Lib.hid hfin
    clear hfin hbW hbx hmx hbk hmk hor hok
    go_wp2
    go_ret
    unfold Did
    rw [HSY.out]
    exact ⟨rfl, HFIN.out⟩
set_option maxHeartbeats 1000000 in
theorem swap9_disk (S : Nat → Prop) (g : Nat) (l : List Fil) (c : Nat) (n : ByteArray) (u : Value) (bs : List UInt8) (w : World) (h : PD w S g l c) (hn : n.size ≤ maxLen) (hc : c ≤ 1000000) (hl : l.length ≤ 100000) (hu : Safe9 S w u bs) (hbl : bs.length ≤ 140737488355328) :
    Calls Try.prog 18 #[.pointer (some ⟨g, 0, none⟩), .string n, u] w (Did S g c (swap9 n bs l) w) := by
  have hH := h
  obtain ⟨m, ps, h1, h2, h3, h4, h5, h6, h7, h8, h9, h10⟩ := h
  have hc0 := h3.cell0
  have hc1 := h3.cell1
  have hfz := h3.frz 1
  have hoc : Off (fun k => k = g) w (w.setCell ⟨g, 1, none⟩ (.int .i64 ((c + 1 : Nat) : Int))) := (Off.refl _ w).set (.inl rfl)
  have hmne : ∀ b, m = some b → ¬ b = g := fun b hb e => by
    subst hb
    exact h3.ne_map (show w.ownsMap Try.prog 9 RH b ps.length (DD ps) from h5) e.symm
  have hm1 := h5.off hoc hmne
  have hb1 := h3.set1 (c + 1)
  have hrow : ∀ p ∈ ps, OwnB 0 p.2 p.1.b (w.setCell ⟨g, 1, none⟩ (.int .i64 ((c + 1 : Nat) : Int))) := fun p hp => rows_off9 h3 h5 (hoc.mono fun k hk => .inl (.inl hk)) (h6 p hp).1
  have hoS : Off S w (w.setCell ⟨g, 1, none⟩ (.int .i64 ((c + 1 : Nat) : Int))) := hoc.mono fun k hk => by subst hk; exact .inl h2
  have hcnt : ∀ {w' : World}, Below w.heap.size (w.setCell ⟨g, 1, none⟩ (.int .i64 ((c + 1 : Nat) : Int))) w' → PD w' (Grw S w w') g l (c + 1) ∧ Off S w w' := fun {w'} hb => hH.count hb
  have hz1 : (w.setCell ⟨g, 1, none⟩ (.int .i64 ((c + 1 : Nat) : Int))).heap.size = w.heap.size := by simp [World.setCell]
  rw [Int.natCast_add, Int.natCast_one] at hm1 hb1 hrow hoS hcnt hz1
  obtain ⟨W1, hW1⟩ : ∃ W1, w.setCell ⟨g, 1, none⟩ (.int .i64 ((c : Int) + 1)) = W1 := ⟨_, rfl⟩
  rw [hW1] at hm1 hb1 hrow hoS hcnt hz1
  have HOS := Lib.hid hoS
  have HROW := Lib.hid hrow
  have HM1 := Lib.hid hm1
  have HB1 := Lib.hid hb1
  have HZ1 := Lib.hid hz1
  have HCNT : Hid (∀ {w' : World}, Below w.heap.size W1 w' → PD w' (Grw S w w') g l (c + 1) ∧ Off S w w') := Lib.hid hcnt
  have HSM := Lib.hid h4
  have hd0 := hb1.cell0
  have HB3 := Lib.hid h3
  have hltg := hb1.lt
  have HRS : Hid (∀ p ∈ ps, ∀ j, p.2.ownBlock = some j → S j) := Lib.hid fun p hp => (h6 p hp).2
  have HPW : Hid (ps.Pairwise Apart9) := Lib.hid h7
  have HLT := Lib.hid h10
  have HSO := Lib.hid h8
  have HGD := Lib.hid h9
  have HSG := Lib.hid h2
  have HSS := Lib.hid (sorted_ps h1 h8)
  have hfg := find_get (n := n) h1
  have HL1 := Lib.hid h1
  have hpl : ps.length = l.length := by rw [← h1, List.length_map]
  rw [← hpl] at hl
  have HHL := Lib.hid hl
  have h1 := 0
  clear hoS hrow hz1 hb1 hoc hcnt hmne hH h3 h4 h5 h7 h8 h10 h2 h1 hl hpl
  obtain ⟨Au, cu, hus, -⟩ := hu w (Off.refl _ _)
  have hub := Lib.hid hu
  clear hu
  subst hus
  obtain ⟨q, hq⟩ : ∃ q, bs.length = q := ⟨_, rfl⟩
  rw [hq] at hub hbl
  obtain ⟨r, hr⟩ : ∃ r, swap9 n bs l = r := ⟨_, rfl⟩
  unfold Did
  rw [hr]
  rw [hq]
  have hck := check9_any n (q : Nat) W1 hn
  have hr2 := hr
  unfold swap9 at hr2
  rw [hq] at hr2
  unfold chk9 at hck
  clear hfg
  by_cases hgn : goodN n = false
  · rw [if_pos hgn] at hck hr2
    have HR := Lib.hid hr2
    clear hr hr2 hgn hn h6 h9 hm1
    go_enter Try.func18, Try.ntmps18
    go_wp2_with fail
    refine hck.mono ?_
    rintro e k ⟨rfl, hk⟩
    have HCK := Lib.hid (HCNT.out (by rw [← HZ1.out]; exact hk))
    clear hk
    go_wp2
    go_ret
    rw [← HR.out]
    exact ⟨rfl, HCK.out⟩
  · rw [if_neg hgn] at hck hr2
    have hgn : goodN n = true := by simpa using hgn
    by_cases hbig : 1048576 < q
    · rw [if_pos (by omega)] at hck
      rw [if_pos hbig] at hr2
      have HR := Lib.hid hr2
      clear hr hr2 hgn hn h6 h9 hm1 hbig
      go_enter Try.func18, Try.ntmps18
      go_wp2_with fail
      refine hck.mono ?_
      rintro e k ⟨rfl, hk⟩
      have HCK := Lib.hid (HCNT.out (by rw [← HZ1.out]; exact hk))
      clear hk
      go_wp2
      go_ret
      rw [← HR.out]
      exact ⟨rfl, HCK.out⟩
    · rw [if_neg (by omega)] at hck
      rw [if_neg hbig] at hr2
      have hnz : n.size ≤ 10 := (goodN_size hgn).2
      have HGF : Hid (Good9 ⟨n, bs, q, true⟩) := Lib.hid ⟨hgn, by rw [hq]; exact Nat.le_refl _, by rw [hq]; exact Nat.le_of_not_lt hbig, fun h => by cases h⟩
      have HR := Lib.hid hr2
      have HQ := Lib.hid hq
      clear hr hr2 hgn hn h6 h9 hm1 hq
      go_enter Try.func18, Try.ntmps18
      go_wp2_with fail
      refine hck.mono ?_
      rintro e k ⟨rfl, hk⟩
      have hok := HOS.out.then_ hk
      go_wp2_with fail
      refine (lasting9_any _ k.heap.size bs k (hub.out k hok) (Nat.le_refl _) (by rw [HQ.out]; omega)).mono ?_
      rintro e k2 ⟨u2, rfl, hu2, hk2⟩
      rw [HQ.out]
      have hz3 := hk.size
      have hbW := hk.trans (hk2.mono hk.size)
      obtain ⟨A2, c2, hu2v⟩ := own_slice hu2
      rw [HQ.out] at hu2v
      subst hu2v
      have HU2 := Lib.hid hu2
      have HBW := Lib.hid hbW
      have HZ3 := Lib.hid hz3
      clear hk hk2 hbW hu2 hok hz3
      go_wp2_with fail
      refine (put9_from ⟨n, bs, q, true⟩ A2 q c2 HB1.out HM1.out HBW.out HSS.out HHL.out hnz).mono ?_
      rintro e k3 ⟨rfl, hbW, hbx, hmx, b, hbk, hmk, hor, hok⟩
      have hlo : ∀ j, (Value.slice A2 q c2).ownBlock = some j → w.heap.size ≤ j ∧ j < k2.heap.size := fun j hj => by
        have h1 := HU2.out.lt j hj
        have := HZ1.out
        have := HZ3.out
        exact ⟨by omega, h1.2⟩
      have hfin := PD.done (S := S) (w := w) HL1.out HSG.out HSM.out HRS.out HPW.out HSO.out HGD.out HLT.out (HOS.out.then_ hbW) hbx hmx (fun p hp _ => (HROW.out p hp).below hbW) (HU2.out.down (Nat.zero_le _)) (fun j hj => .inr (hlo j hj))
        (fun x hx hne j hj e => by
          have h1 := HLT.out j (HRS.out x hx j e)
          have h2 := (hlo j hj).1
          omega) HGF.out hbk hmk hor hok
      have HFIN := Lib.hid hfin
      clear hfin hbW hbx hmx hbk hmk hor hok hlo
      go_wp2
      go_ret
      rw [← HR.out]
      exact ⟨rfl, HFIN.out⟩
set_option maxHeartbeats 2000000 in
theorem app9_disk (S : Nat → Prop) (g : Nat) (l : List Fil) (c : Nat) (n : ByteArray) (u : Value) (bs : List UInt8) (w : World) (h : PD w S g l c) (hn : n.size ≤ maxLen) (hc : c ≤ 1000000) (hl : l.length ≤ 100000) (hu : Safe9 S w u bs) (hbl : bs.length ≤ 140737486258176) :
    Calls Try.prog 14 #[.pointer (some ⟨g, 0, none⟩), .string n, u] w (Did S g c (app9 n bs l) w) := by
  have hH := h
  obtain ⟨m, ps, h1, h2, h3, h4, h5, h6, h7, h8, h9, h10⟩ := h
  have hc0 := h3.cell0
  have hc1 := h3.cell1
  have hfz := h3.frz 1
  have hoc : Off (fun k => k = g) w (w.setCell ⟨g, 1, none⟩ (.int .i64 ((c + 1 : Nat) : Int))) := (Off.refl _ w).set (.inl rfl)
  have hmne : ∀ b, m = some b → ¬ b = g := fun b hb e => by
    subst hb
    exact h3.ne_map (show w.ownsMap Try.prog 9 RH b ps.length (DD ps) from h5) e.symm
  have hm1 := h5.off hoc hmne
  have hb1 := h3.set1 (c + 1)
  have hrow : ∀ p ∈ ps, OwnB 0 p.2 p.1.b (w.setCell ⟨g, 1, none⟩ (.int .i64 ((c + 1 : Nat) : Int))) := fun p hp => rows_off9 h3 h5 (hoc.mono fun k hk => .inl (.inl hk)) (h6 p hp).1
  have hoS : Off S w (w.setCell ⟨g, 1, none⟩ (.int .i64 ((c + 1 : Nat) : Int))) := hoc.mono fun k hk => by subst hk; exact .inl h2
  have hcnt : ∀ {w' : World}, Below w.heap.size (w.setCell ⟨g, 1, none⟩ (.int .i64 ((c + 1 : Nat) : Int))) w' → PD w' (Grw S w w') g l (c + 1) ∧ Off S w w' := fun {w'} hb => hH.count hb
  have hz1 : (w.setCell ⟨g, 1, none⟩ (.int .i64 ((c + 1 : Nat) : Int))).heap.size = w.heap.size := by simp [World.setCell]
  rw [Int.natCast_add, Int.natCast_one] at hm1 hb1 hrow hoS hcnt hz1
  obtain ⟨W1, hW1⟩ : ∃ W1, w.setCell ⟨g, 1, none⟩ (.int .i64 ((c : Int) + 1)) = W1 := ⟨_, rfl⟩
  rw [hW1] at hm1 hb1 hrow hoS hcnt hz1
  have HOS := Lib.hid hoS
  have HROW := Lib.hid hrow
  have HM1 := Lib.hid hm1
  have HB1 := Lib.hid hb1
  have HZ1 := Lib.hid hz1
  have HCNT : Hid (∀ {w' : World}, Below w.heap.size W1 w' → PD w' (Grw S w w') g l (c + 1) ∧ Off S w w') := Lib.hid hcnt
  have HSM := Lib.hid h4
  have hd0 := hb1.cell0
  have HB3 := Lib.hid h3
  have hltg := hb1.lt
  have HRS : Hid (∀ p ∈ ps, ∀ j, p.2.ownBlock = some j → S j) := Lib.hid fun p hp => (h6 p hp).2
  have HPW : Hid (ps.Pairwise Apart9) := Lib.hid h7
  have HLT := Lib.hid h10
  have HSO := Lib.hid h8
  have HGD := Lib.hid h9
  have HSG := Lib.hid h2
  have HSS := Lib.hid (sorted_ps h1 h8)
  have hlo := look_one (n := n) h1 (fun p hp => (h6 p hp).1) (fun p hp => (h6 p hp).2) h7
  have hgdn := fun (hn : goodN n = true) => fileOf_good (l := l) hn h9
  have hlen9 : (fileOf n l).b.length ≤ 1048576 := by
    unfold fileOf
    cases hg : getF n l with
    | none => exact Nat.zero_le _
    | some f => exact (h9 f (getF_mem hg).1).2.2.1
  have HL1 := Lib.hid h1
  have hpl : ps.length = l.length := by rw [← h1, List.length_map]
  rw [← hpl] at hl
  have HHL := Lib.hid hl
  have h1 := 0
  clear hoS hrow hz1 hb1 hoc hcnt hmne hH h3 h4 h5 h7 h8 h10 h2 h1 hl hpl
  have hlk := look9 (n := n) false hm1 hn
  obtain ⟨A, q, ca, hlv, hlq, hown, hownS, hap⟩ := hlo
  rw [hlv] at hlk
  simp only [Bool.false_eq_true, if_false] at hlk
  obtain ⟨Au, cu, hus, -⟩ := hu w (Off.refl _ _)
  have hub := Lib.hid hu
  subst hus
  obtain ⟨z, hz⟩ : ∃ z, bs.length = z := ⟨_, rfl⟩
  rw [hz] at hub hbl
  obtain ⟨r, hr⟩ : ∃ r, app9 n bs l = r := ⟨_, rfl⟩
  unfold Did
  rw [hr]
  rw [hz]
  have hr2 := hr
  unfold app9 at hr2
  have HGN := Lib.hid hgdn
  have HWO : Hid (OwnB 0 (.slice A q ca) (fileOf n l).b W1) := Lib.hid ((show Off (fun k => k = g) w W1 from by rw [← hW1]; exact (Off.refl _ w).set (.inl rfl)).ownsRow hown fun k hk e => by
    subst e
    obtain ⟨cur, hcu⟩ := own_type hown hk
    have h3 := HB3.out
    unfold Box9 at h3
    rw [h3] at hcu
    injection hcu with hcu; injection hcu with _ h4 _
    exact disk9_ne_u8 h4)
  have HOWS := Lib.hid hownS
  have HAP := Lib.hid hap
  obtain ⟨fo, hfo⟩ : ∃ fo, fileOf n l = fo := ⟨_, rfl⟩
  rw [hfo] at hlk hlq hr2 hgdn hlen9 HWO HGN
  rw [hlq, hz] at hr2
  rw [hlq] at hlen9
  obtain ⟨fb, hfb⟩ : ∃ fb, fo.b = fb := ⟨_, rfl⟩
  obtain ⟨fa, hfa⟩ : ∃ fa, fo.fast = fa := ⟨_, rfl⟩
  obtain ⟨th, hth⟩ : ∃ th, fo.there = th := ⟨_, rfl⟩
  rw [hfb] at hlq hr2 HWO
  rw [hfa, hth] at hlk hr2
  have hw2 : IntKind.i64.wrap ((q : Int) + z) = ((q + z : Nat) : Int) := by rw [IntKind.wrap_i64]; omega
  rw [Int.natCast_add] at hw2
  have hck := fun w => check9_any n ((q : Int) + z) w hn
  unfold chk9 at hck
  have hbx := Blk.new W1 #[.slice A q ca, .int .i64 ((fa : Nat) : Int), .bool th] 59
  have y0 := hbx.cell (j := 0) rfl
  have y1 := hbx.cell (j := 1) rfl
  have y2 := hbx.cell (j := 2) rfl
  have hb0 := below_new W1 (.cells #[.slice A q ca, .int .i64 ((fa : Nat) : Int), .bool th] 59)
  have hz0 : (W1.alloc (.cells #[.slice A q ca, .int .i64 ((fa : Nat) : Int), .bool th] 59)).heap.size = W1.heap.size + 1 := by simp
  have HBX := Lib.hid hbx
  have HB0 := Lib.hid hb0
  have HZ0 := Lib.hid hz0
  have HLQ := Lib.hid hlq
  have HZ := Lib.hid hz
  have HFA := Lib.hid hfa
  have HTH := Lib.hid hth
  have HFB := Lib.hid hfb
  clear hbx hb0 hz0 hlq hz hfa hth hfb hlv hfo hgdn hown hownS hap hr hu h6 h9
  by_cases hgn : goodN n = false
  · rw [if_pos hgn] at hr2
    have hck := fun w => by have h := hck w; rw [if_pos hgn] at h; exact h
    have HR := Lib.hid hr2
    clear hr2 hgn hn hm1
    go_enter Try.func14, Try.ntmps14
    go_wp2_with fail
    refine (hck _).mono ?_
    rintro e k ⟨rfl, hk⟩
    have HCK := Lib.hid (HCNT.out (by rw [← HZ1.out]; exact HB0.out.trans (hk.mono (by rw [HZ0.out]; exact Nat.le_succ _))))
    clear hk
    go_wp2
    go_ret
    rw [← HR.out]
    exact ⟨rfl, HCK.out⟩
  · rw [if_neg hgn] at hr2
    have hck := fun w => by have h := hck w; rw [if_neg hgn] at h; exact h
    have hgn : goodN n = true := by simpa using hgn
    by_cases hbig : 1048576 < q + z
    · rw [if_pos hbig] at hr2
      have hck := fun w => by have h := hck w; rw [if_pos (show (1048576 : Int) < (q : Int) + z by omega)] at h; exact h
      have HR := Lib.hid hr2
      clear hr2 hgn hn hm1 hbig
      go_enter Try.func14, Try.ntmps14
      go_wp2_with fail
      refine (hck _).mono ?_
      rintro e k ⟨rfl, hk⟩
      have HCK := Lib.hid (HCNT.out (by rw [← HZ1.out]; exact HB0.out.trans (hk.mono (by rw [HZ0.out]; exact Nat.le_succ _))))
      clear hk
      go_wp2
      go_ret
      rw [← HR.out]
      exact ⟨rfl, HCK.out⟩
    · rw [if_neg hbig] at hr2
      have hck := fun w => by have h := hck w; rw [if_neg (show ¬ (1048576 : Int) < (q : Int) + z by omega)] at h; exact h
      have hnz : n.size ≤ 10 := (goodN_size hgn).2
      have HGF : Hid (Good9 ⟨n, fb ++ bs, fa, th⟩) := Lib.hid (by
        obtain ⟨⟨_, g2, g3, g4⟩, _⟩ := HGN.out hgn
        rw [HFB.out, HFA.out] at g2
        rw [HTH.out, HFA.out] at g4
        refine ⟨hgn, ?_, ?_, g4⟩
        · show fa ≤ (fb ++ bs).length
          rw [List.length_append]; omega
        · show (fb ++ bs).length ≤ 1048576
          rw [List.length_append, HLQ.out, HZ.out]; omega)
      have HR := Lib.hid hr2
      clear hr2 hgn hn hm1
      go_enter Try.func14, Try.ntmps14
      go_wp2_with fail
      refine (hck _).mono ?_
      rintro e k ⟨rfl, hk⟩
      have hkz := hk.size
      rw [HZ0.out] at hkz
      have hbk := HBX.out.below hk
      have y0 := hbk.cell (j := 0) rfl
      have y1 := hbk.cell (j := 1) rfl
      have y2 := hbk.cell (j := 2) rfl
      have hk1 : Below W1.heap.size W1 k := HB0.out.trans (hk.mono (by rw [HZ0.out]; exact Nat.le_succ _))
      have HK1 := Lib.hid hk1
      have HBK := Lib.hid hbk
      have hok := HOS.out.then_ hk1
      have HOK := Lib.hid hok
      have hub2 := hub.out k hok
      have hwo2 := HWO.out.below hk1
      have HKZ := Lib.hid hkz
      have HGW : Hid (g ≠ W1.heap.size) := Lib.hid (by omega)
      clear hk hbk hk1 hok hkz
      go_wp2_with (at_builtin; refine wpList_append_byt_at rfl _ _ rfl 0 _ _ _ _ _ rfl hwo2 rfl hub2 ?x1 (Nat.zero_le _) ?_)
      case x1 => rw [HLQ.out, HZ.out]; omega
      intro v' k2 hv2 hb2 hg2
      have hgb := hg2.1
      have hne2 : (Value.slice A q ca).ownBlock ≠ some W1.heap.size := fun e => by
        have h1 := HLT.out _ (HOWS.out _ e)
        have := HZ1.out
        omega
      have hbk2 : Blk k2 W1.heap.size #[.slice A q ca, .int .i64 ((fa : Nat) : Int), .bool th] 59 := (hgb.block _ (by have := HKZ.out; omega) (fun e => hne2 e.symm)).trans HBK.out
      have z0 := hbk2.cell (j := 0) rfl
      have z1 := hbk2.cell (j := 1) rfl
      have z2 := hbk2.cell (j := 2) rfl
      have f0 := hbk2.frz 0
      obtain ⟨A2, c2, hv2v⟩ := own_slice hv2
      rw [List.length_append, HLQ.out, HZ.out] at hv2v
      subst hv2v
      have HV2 := Lib.hid hv2
      have HG2 := Lib.hid hg2
      have HBK2 := Lib.hid hbk2
      have HNE2 := Lib.hid hne2
      have hKK := HK1.out.size
      have hWT : Off (fun j => (Value.slice A q ca).ownBlock = some j ∨ j = W1.heap.size) k (k2.setCell ⟨W1.heap.size, 0, none⟩ (.slice A2 (q + z) c2)) := ((Off.refl _ k).grown hgb (fun j hj => .inl (.inl hj))).set (.inl (.inr rfl))
      have hgT : ¬ ((Value.slice A q ca).ownBlock = some g ∨ g = W1.heap.size) := by
        rintro (e | e)
        · obtain ⟨cur, hcu⟩ := own_type HWO.out e
          have h3 := HB1.out
          unfold Box9 at h3
          rw [h3] at hcu
          injection hcu with hcu; injection hcu with _ h4 _
          exact disk9_ne_u8 h4
        · exact HGW.out e
      have hmT : ∀ b, m = some b → ¬ ((Value.slice A q ca).ownBlock = some b ∨ b = W1.heap.size) := by
        rintro b rfl (e | e)
        · obtain ⟨cur, hcu⟩ := own_type HWO.out e
          exact blk_ne_map hcu (show W1.ownsMap Try.prog 9 RH b ps.length (DD ps) from HM1.out)
        · have h1 := HLT.out b (HSM.out b rfl)
          have := HZ1.out
          omega
      have HWT := Lib.hid hWT
      have HGT := Lib.hid hgT
      have HMT := Lib.hid hmT
      have HKK := Lib.hid hKK
      clear hv2 hb2 hg2 hgb hbk2 hne2 hub2 hwo2 hWT hgT hmT hKK
      go_wp2_with fail
      refine (put9_off ⟨n, fb ++ bs, fa, th⟩ A2 (q + z) c2 (HB1.out.below HK1.out) (HM1.out.below HK1.out) HWT.out HGT.out HMT.out HSS.out HHL.out hnz).mono ?_
      rintro e k3 ⟨rfl, hbW, hbx, hmx, b, hbk, hmk, hor, hok⟩
      have hz1 := HZ1.out
      have hz2 := HKZ.out
      have hz3 := hbW.size
      have hA2 : ∀ j, (Value.slice A2 (q + z) c2).ownBlock = some j → (S j ∧ (Value.slice A q ca).ownBlock = some j) ∨ j = k.heap.size := fun j hj => by
        rcases HG2.out.2 with e | e
        · rw [e] at hj; exact .inl ⟨HOWS.out j hj, hj⟩
        · rw [e] at hj; exact .inr (Option.some.inj hj).symm
      have hfin := PD.done (S := S) (w := w) (f := ⟨n, fb ++ bs, fa, th⟩) (u := .slice A2 (q + z) c2) HL1.out HSG.out HSM.out HRS.out HPW.out HSO.out HGD.out HLT.out
        (HOK.out.trans hbW (fun j hj => by
          rcases hj with e | e
          · exact .inl (HOWS.out j e)
          · exact .inr (by omega))) hbx hmx
        (fun p hp hne => hbW.ownsRow ((HROW.out p hp).below HK1.out) (fun j hj => by
          rintro (e | e)
          · exact HAP.out p hp hne ⟨n, [], 0, true⟩ j e hj
          · have h1 := HLT.out j (HRS.out p hp j hj)
            omega))
        (World.ownsRow.kept HV2.out (setCell_grown k2 _ _) (.inr (HG2.out.apart (by show W1.heap.size < k.heap.size; omega) HNE2.out)))
        (fun j hj => by
          rcases hA2 j hj with e | e
          · exact .inl e.1
          · have h1 := (HV2.out.lt j hj).2
            refine .inr ⟨by omega, ?_⟩
            simpa [World.setCell] using h1)
        (fun x hx hne j hj e => by
          rcases hA2 j hj with e2 | e2
          · exact HAP.out x hx hne ⟨n, [], 0, true⟩ j e2.2 e
          · have h1 := HLT.out j (HRS.out x hx j e)
            omega) HGF.out hbk hmk hor hok
      have HFIN := Lib.hid hfin
      clear hfin hbW hbx hmx hbk hmk hor hok hA2 hz1 hz2 hz3
      go_wp2
      go_ret
      rw [← HR.out]
      exact ⟨rfl, HFIN.out⟩
end Go.Proofs.Ytbdengcblncfmaa
