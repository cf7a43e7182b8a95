/-
  Package op's Encode writes a batch that may be, and answers nil for another one.
  The batch lies in memory; its integers are in their ranges; it has at most 1,000 operations, whose texts have at most 1,000,000 bytes.
-/
import Derived.Test.YtegkhkcnoahhdaaOpParts
import Derived.Test.YtegkhkcnoahhdaaOpPlain
import Derived.Test.YtegkhkcnoahhdaaWAppend
set_option linter.unusedSimpArgs false
set_option linter.unusedVariables false
namespace Go.Proofs.Ytegkhkcnoahhdaa
open Go.RowKit
set_option maxRecDepth 100000

/-- what Encode answers: new memory; nil where the batch may not be -/
def EncR (b : Bat) (w : World) (e : Ending) (w' : World) : Prop := ∃ A c, e = .returned (.slice A (encB b).length c) ∧ OwnB w.heap.size (.slice A (encB b).length c) (encB b) w' ∧ (mayB b = false → A = none ∧ c = 0) ∧ Below w.heap.size w w'
theorem byt_nil (w : World) (B : Nat) : Byt w B (.slice none 0 0) [] := ⟨none, 0, rfl, Nat.le_refl _, fun h => absurd h (by decide)⟩
theorem parts_is (B : Nat) (v : Value) (b : Bat) (x : Bool) (w : World) (h : BatV w B v b) (hB : B ≤ w.heap.size) (hok : b.ok) (hx : partsB b = x) : Calls Try.prog 35 #[v] w (Bl x w) := by
  rw [← hx]; exact parts_any B v b w h hB (b.small hok)
theorem enc_nil {b : Bat} {w w' : World} (h : mayB b = false) (hb : Below w.heap.size w w') : EncR b w (.returned (.slice none 0 0)) w' := by
  have e : encB b = [] := by unfold encB; rw [h]; rfl
  refine ⟨none, 0, by rw [e]; rfl, by rw [e]; exact ownB_nil _ _, fun _ => ⟨rfl, rfl⟩, hb⟩
theorem flat_short : ∀ {l : List Opn}, l.all mayO = true → (l.flatMap bytesO).length ≤ l.length * 640
  | [], _ => by simp
  | x :: l, h => by
    rw [List.all_cons, Bool.and_eq_true] at h
    have h1 := bytesO_short h.1
    have h2 := flat_short h.2
    rw [List.flatMap_cons, List.length_append, List.length_cons, Nat.add_mul]; omega
set_option maxHeartbeats 2000000 in
theorem oenc_any (B : Nat) (v : Value) (b : Bat) (w : World) (h : BatV w B v b) (hB : B ≤ w.heap.size) (hok : b.ok) : Calls Try.prog 20 #[v] w (EncR b w) := by
  obtain ⟨s, rfl, hops⟩ := id h
  obtain ⟨bc, bq, l⟩ := b
  obtain ⟨A, c, rfl, hc, hcell⟩ := hops
  obtain ⟨x, hx⟩ : ∃ x, partsB ⟨bc, bq, l⟩ = x := ⟨_, rfl⟩
  have HV := Lib.hid h; clear h
  obtain ⟨W0, hW0⟩ : ∃ W0, w.alloc (Obj.cells #[Value.int IntKind.i64 bc, Value.int IntKind.i64 bq, Value.slice A l.length c] 29) = W0 := ⟨_, rfl⟩
  have hsz : W0.heap.size = w.heap.size + 1 := by rw [← hW0]; simp
  have hlt : w.heap.size < W0.heap.size := by omega
  have q0 : W0.cell? ⟨w.heap.size, 0, none⟩ = some (.int .i64 bc) := by rw [← hW0]; exact World.cell?_alloc_mark w _ _ _ 0
  have q1 : W0.cell? ⟨w.heap.size, 1, none⟩ = some (.int .i64 bq) := by rw [← hW0]; exact World.cell?_alloc_mark w _ _ _ 1
  have q2 : W0.cell? ⟨w.heap.size, 2, none⟩ = some (.slice A l.length c) := by rw [← hW0]; exact World.cell?_alloc_mark w _ _ _ 2
  have hb0 : Below w.heap.size w W0 := by rw [← hW0]; exact below_one w _
  have HW := Lib.hid hW0; clear hW0 hsz
  have HX := Lib.hid hx; clear hx
  have HCELL := Lib.hid hcell; clear hcell
  go_enter Try.func20, Try.ntmps20
  go_wp2_with fail
  rw [HW.out]
  refine (parts_is B _ ⟨bc, bq, l⟩ x _ (HV.out.keep hb0 hB) (Nat.le_trans hB hb0.size) hok HX.out).mono ?_
  rintro e w1 ⟨rfl, hb1⟩
  have r0 : w1.cell? ⟨w.heap.size, 0, none⟩ = some (.int .i64 bc) := (hb1.cell (p := ⟨w.heap.size, 0, none⟩) hlt).trans q0
  have r1 : w1.cell? ⟨w.heap.size, 1, none⟩ = some (.int .i64 bq) := (hb1.cell (p := ⟨w.heap.size, 1, none⟩) hlt).trans q1
  have r2 : w1.cell? ⟨w.heap.size, 2, none⟩ = some (.slice A l.length c) := (hb1.cell (p := ⟨w.heap.size, 2, none⟩) hlt).trans q2
  have hbw1 : Below w.heap.size w w1 := hb0.trans (hb1.mono hb0.size)
  have hlt1 : w.heap.size < w1.heap.size := Nat.lt_of_lt_of_le hlt hb1.size
  clear q0 q1 q2 hb1
  cases x
  · have hm : mayB ⟨bc, bq, l⟩ = false := by rw [mayB_parts, HX.out]; rfl
    have HM := Lib.hid hm; clear hm
    go_wp2
    go_ret
    exact enc_nil HM.out hbw1
  · have hin : (1 ≤ bc ∧ bc ≤ 5) ∧ (1 ≤ bq ∧ bq ≤ 1099511627776) ∧ mayOs l = true := by
      have h := HX.out
      unfold partsB at h
      simp only [Bool.and_eq_true, decide_eq_true_eq] at h
      exact ⟨h.1.1.1, ⟨h.1.1.2, h.1.2⟩, h.2⟩
    obtain ⟨i1, i2, hall⟩ := hin
    unfold mayOs at hall
    simp only [Bool.and_eq_true, decide_eq_true_eq] at hall
    obtain ⟨⟨hl1, hl8⟩, hall⟩ := hall
    have HALL := Lib.hid hall; clear hall
    obtain ⟨m1, hm1⟩ : ∃ m, [] ++ Nu.put bc = m := ⟨_, rfl⟩
    obtain ⟨m2, hm2⟩ : ∃ m, m1 ++ Nu.put bq = m := ⟨_, rfl⟩
    obtain ⟨m3, hm3⟩ : ∃ m, m2 ++ Nu.put (l.length : Int) = m := ⟨_, rfl⟩
    have n1 : m1.length ≤ 10 := by have := Nu.put_len bc; rw [← hm1, List.length_append]; simp; omega
    have n2 : m2.length ≤ 20 := by have := Nu.put_len bq; rw [← hm2, List.length_append]; omega
    have n3 : m3.length ≤ 30 := by have := Nu.put_len (l.length : Int); rw [← hm3, List.length_append]; omega
    have hB3 : bytesB ⟨bc, bq, l⟩ = m3 ++ l.flatMap bytesO := by unfold bytesB; rw [← hm3, ← hm2, ← hm1]; simp
    have H1 := Lib.hid hm1; clear hm1
    have H2 := Lib.hid hm2; clear hm2
    have H3 := Lib.hid hm3; clear hm3
    have HB3 := Lib.hid hB3; clear hB3
    obtain ⟨g, o, rfl, hg, hcs⟩ := HCELL.out (by show 0 < l.length; omega)
    have HC := Lib.hid hcs; clear hcs HCELL
    go_wp2_with fail
    refine (nput_to _ 0 [] m1 bc w1 (byt_nil _ _) (by decide) (Nat.zero_le _) ⟨by omega, by omega⟩ H1.out).mono ?_
    rintro e w2 ⟨v2, rfl, ho2, hb2⟩
    have r1 : w2.cell? ⟨w.heap.size, 1, none⟩ = some (.int .i64 bq) := (hb2.cell (p := ⟨w.heap.size, 1, none⟩) hlt1).trans r1
    have r2 : w2.cell? ⟨w.heap.size, 2, none⟩ = some (.slice (some ⟨g, o, none⟩) l.length c) := (hb2.cell (p := ⟨w.heap.size, 2, none⟩) hlt1).trans r2
    have hbw2 := hbw1.trans (hb2.mono hbw1.size)
    have hlt2 : w.heap.size < w2.heap.size := Nat.lt_of_lt_of_le hlt1 hb2.size
    have HO2 := Lib.hid ho2; clear ho2 hb2
    go_wp2_with fail
    refine (nput_to v2 _ m1 m2 bq w2 (Byt.of_own HO2.out) (by omega) (Nat.le_refl _) ⟨by omega, by omega⟩ H2.out).mono ?_
    rintro e w3 ⟨v3, rfl, ho3, hb3⟩
    have r2 : w3.cell? ⟨w.heap.size, 2, none⟩ = some (.slice (some ⟨g, o, none⟩) l.length c) := (hb3.cell (p := ⟨w.heap.size, 2, none⟩) hlt2).trans r2
    have hbw3 := hbw2.trans (hb3.mono hbw2.size)
    have hlt3 : w.heap.size < w3.heap.size := Nat.lt_of_lt_of_le hlt2 hb3.size
    have HO3 := Lib.hid ho3; clear ho3 hb3
    go_wp2_with fail
    refine (nput_to v3 _ m2 m3 (l.length : Int) w3 (Byt.of_own HO3.out) (by omega) (Nat.le_refl _) ⟨by omega, by omega⟩ H3.out).mono ?_
    rintro e w4 ⟨v4, rfl, ho4, hb4⟩
    have r2 : w4.cell? ⟨w.heap.size, 2, none⟩ = some (.slice (some ⟨g, o, none⟩) l.length c) := (hb4.cell (p := ⟨w.heap.size, 2, none⟩) hlt3).trans r2
    have hbw4 := hbw3.trans (hb4.mono hbw3.size)
    have ho4 := ho4.down hbw3.size
    have HO4 := Lib.hid ho4; clear ho4 hb4
    go_wp2
    go_loopw [3, 24] (fun v i wr => ∃ k : Nat, i = .int .i64 k ∧ k ≤ l.length ∧ Below w.heap.size w wr ∧ OwnB w.heap.size v (m3 ++ (l.take k).flatMap bytesO) wr) (fun _ i _ => l.length - (intOf i).toNat)
    case atStart => exact ⟨0, rfl, by omega, hbw4, by simpa using HO4.out⟩
    case round =>
      obtain ⟨k, rfl, hk, hbw, hown⟩ := hrel
      obtain ⟨m, hm⟩ : ∃ m, m3 ++ (l.take k).flatMap bytesO = m := ⟨_, rfl⟩
      rw [hm] at hown
      have hmn : m.length ≤ 6000 := by
        have h2 : (l.take k).all mayO = true := List.all_eq_true.2 fun x hx => List.all_eq_true.1 HALL.out x (List.mem_of_mem_take hx)
        have := flat_short h2
        rw [← hm, List.length_append]; rw [List.length_take] at this; omega
      by_cases hkl : k < l.length
      · obtain ⟨x, hx⟩ : ∃ x, l[k] = x := ⟨_, rfl⟩
        have hr := HC.out k hkl
        rw [hx] at hr
        have hr2 := range_below hr hbw (Nat.lt_of_lt_of_le hg hB)
        have hxs := hok.2.2 l[k] (List.getElem_mem ..)
        have hxm : mayO l[k] = true := List.all_eq_true.1 HALL.out _ (List.getElem_mem ..)
        have htk : l.take (k + 1) = l.take k ++ [x] := by rw [List.take_add_one, List.getElem?_eq_getElem hkl, hx]; rfl
        rw [hx] at hxs hxm
        obtain ⟨m', hm'⟩ : ∃ m', m ++ bytesO x = m' := ⟨_, rfl⟩
        have hnext : m3 ++ (l.take (k + 1)).flatMap bytesO = m' := by rw [htk, List.flatMap_append, ← List.append_assoc, hm, ← hm']; simp
        clear htk hr hx
        obtain ⟨xk, xkey, ⟨xvk, xvn, xvs⟩, ⟨xok, xon, xos⟩, xn⟩ := x
        have HXS := Lib.hid hxs; clear hxs
        have HXM := Lib.hid hxm; clear hxm
        have HM' := Lib.hid hm'; clear hm'
        have HN := Lib.hid hnext; clear hnext
        have HO := Lib.hid hown; clear hown hm
        unfold Opn.cs at hr2
        simp only at hr2
        go_wp2_with (refine wpList_load_mid rfl 38 _ rfl g (o + k * 9) rfl _ _ hr2 Try.underlying38 rfl Try.infoOp ?_)
        have hbx : ∀ ob : Obj, Below w.heap.size w (wr.alloc ob) := fun ob => hbw.alloc hbw.size ob
        refine (oputOp_is _ _ ⟨xk, xkey, ⟨xvk, xvn, xvs⟩, ⟨xok, xon, xos⟩, xn⟩ _ m m' _ rfl ((Byt.of_own HO.out).below (below_one _ _) (Nat.le_refl _)) (by omega) (by simp) HXS.out HXM.out HM'.out).mono ?_
        rintro e w5 ⟨v5, rfl, ho5, hb5⟩
        have hbw5 : Below w.heap.size w w5 := (hbx _).trans (hb5.mono (hbx _).size)
        have ho5 := ho5.down (hbx _).size
        rw [← HN.out] at ho5
        have HO5 := Lib.hid ho5; clear ho5 hb5 hr2 hbx
        go_wp2
        go_roundw
        case rel => exact ⟨k + 1, by go_num, by omega, hbw5, HO5.out⟩
        case measure => simp [intOf]; omega
      · have hbm : bytesB ⟨bc, bq, l⟩ = m := by rw [HB3.out, ← hm, List.take_of_length_le (by omega)]
        have HBM := Lib.hid hbm; clear hbm hm
        obtain ⟨A5, c5, rfl⟩ := own_slice hown
        have HO := Lib.hid hown; clear hown
        by_cases hlong : m.length ≤ 1200
        · have he : encB ⟨bc, bq, l⟩ = m := by unfold encB; rw [mayB_parts, HX.out, HBM.out, decide_eq_true hlong]; rfl
          have hmt : mayB ⟨bc, bq, l⟩ = true := by rw [mayB_parts, HX.out, HBM.out, decide_eq_true hlong]; rfl
          have HE := Lib.hid he; clear he
          have HMT := Lib.hid hmt; clear hmt
          go_wp2
          go_ret
          refine ⟨A5, c5, by rw [HE.out]; rfl, by rw [HE.out]; exact HO.out, fun e => ?_, hbw⟩
          rw [HMT.out] at e; cases e
        · have hmf : mayB ⟨bc, bq, l⟩ = false := by rw [mayB_parts, HX.out, HBM.out, decide_eq_false hlong]; rfl
          have HM := Lib.hid hmf; clear hmf
          go_wp2
          go_ret
          exact enc_nil HM.out hbw
theorem enc_cases {b : Bat} {A : Option Addr} {c : Nat} {w : World} {B : Nat} (ho : OwnB B (.slice A (encB b).length c) (encB b) w) (hm : mayB b = true) : ∃ g, A = some ⟨g, 0, none⟩ := by
  have he : encB b = bytesB b := by unfold encB; rw [hm]; rfl
  have h1 : 1 ≤ (encB b).length := by rw [he]; unfold bytesB; have := Nu.put_ne b.client; simp only [List.length_append]; omega
  rcases ho.2 with ⟨_, h0⟩ | ⟨g, c', cur, hv, _⟩
  · omega
  · injection hv with h _ _; exact ⟨g, h⟩
end Go.Proofs.Ytegkhkcnoahhdaa
