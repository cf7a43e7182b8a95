/-
  Package fold's Encode: writes a fold as the plain function says, in new memory.
  The fold is as it should be.
-/
import Derived.Test.YtegkhkcnoahhdaaFTold
import Derived.Great.Walk
import Derived.Deep.Cut
import Derived.Test.YtegkhkcnoahhdaaFCopy
set_option linter.unusedSimpArgs false
set_option linter.unusedVariables false
namespace Go.Proofs.Ytegkhkcnoahhdaa
open Go.RowKit
set_option maxRecDepth 100000

set_option maxHeartbeats 1000000 in
theorem fputLast_any (u : Value) (B : Nat) (l : List UInt8) (la : La) (m : List UInt8) (w : World) (h : Byt w B u l) (hl : l.length ≤ 500000) (hB : B ≤ w.heap.size) (hla : la.ok) (hts : la.txt.size ≤ 1200) (hm : l ++ laB la = m) :
    Calls Try.prog 33 #[u, .agg #[.int .i64 la.seq, .int .i64 la.place, .string la.txt, .int .i64 la.err]] w (Made m w) := by
  obtain ⟨s, p, t, r⟩ := la
  have n1 := Nu.put_len s
  have n2 := Nu.put_len p
  have n3 := putT_len t
  have n4 := Nu.put_len r
  obtain ⟨h1, h2, h3, h4⟩ := hla
  simp only at h1 h2 h3 h4 hts
  unfold laB at hm
  simp only at hm
  have hb := Below.refl w.heap.size w
  have HBY := Lib.hid h; clear h
  by_cases hs : s = 0
  · rw [if_pos hs, List.append_nil] at hm
    have HP := Lib.hid (fun W (hW : Below w.heap.size w W) => nput_to u B l m s W (HBY.out.below hW hB) (by omega) (Nat.le_trans hB hW.size) h1 hm)
    have HS := Lib.hid hs; clear hs
    go_enter Try.func33, Try.ntmps33
    go_wp2_with fail
    refine (HP.out _ (below_one w _)).mono ?_
    rintro e k1 ⟨v1, rfl, ho1, h⟩
    have hr := (Rb.new w 61 [.int .i64 s, .int .i64 p, .string t, .int .i64 r]).below (h.mono (by first | exact Nat.le_refl _ | (simp; done)))
    have hb1 : Below w.heap.size w k1 := (below_one w _).trans (h.mono (by simp))
    have r0 := hr.cell (j := 0) rfl
    have hlt := hr.lt
    have HO := Lib.hid (OwnB.down ho1 (show w.heap.size ≤ _ by simp))
    have hs2 := HS.out
    subst hs2
    clear h ho1 hr
    go_wp2
    go_ret
    exact ⟨v1, rfl, HO.out, hb1⟩
  · rw [if_neg hs] at hm
    have HP := Lib.hid (fun W (hW : Below w.heap.size w W) => nput_to u B l (l ++ Nu.put s) s W (HBY.out.below hW hB) (by omega) (Nat.le_trans hB hW.size) h1 rfl)
    go_enter Try.func33, Try.ntmps33
    go_wp2_with fail
    refine (HP.out _ (below_one w _)).mono ?_
    rintro e k1 ⟨v1, rfl, ho1, h⟩
    have hr := (Rb.new w 61 [.int .i64 s, .int .i64 p, .string t, .int .i64 r]).below (h.mono (by first | exact Nat.le_refl _ | (simp; done)))
    have hb1 : Below w.heap.size w k1 := (below_one w _).trans (h.mono (by simp))
    have r0 := hr.cell (j := 0) rfl
    have r1 := hr.cell (j := 1) rfl
    have hlt := hr.lt
    have hby1 := Byt.of_own ho1
    clear h ho1
    go_wp2_with fail
    refine (nput_to v1 _ (l ++ Nu.put s) (l ++ Nu.put s ++ Nu.put p) p _ hby1 (by rw [List.length_append]; omega) (Nat.le_refl _) h2 rfl).mono ?_
    rintro e k2 ⟨v2, rfl, ho2, h⟩
    replace hr := hr.below h
    replace hb1 := hb1.trans (h.mono hb1.size)
    have r2 := hr.cell (j := 2) rfl
    have hlt := hr.lt
    have hby2 := Byt.of_own ho2
    clear h ho2 hby1 r0 r1
    go_wp2_with fail
    refine (nputT_to v2 _ (l ++ Nu.put s ++ Nu.put p) (l ++ Nu.put s ++ Nu.put p ++ Nu.putT t.data.toList) t _ hby2 (by rw [List.length_append, List.length_append]; omega) (by omega) (Nat.le_refl _) rfl).mono ?_
    rintro e k3 ⟨v3, rfl, ho3, h⟩
    replace hr := hr.below h
    replace hb1 := hb1.trans (h.mono hb1.size)
    have r3 := hr.cell (j := 3) rfl
    have hlt := hr.lt
    have hby3 := Byt.of_own ho3
    clear h ho3 hby2 r2
    go_wp2_with fail
    refine (nput_to v3 _ (l ++ Nu.put s ++ Nu.put p ++ Nu.putT t.data.toList) m r _ hby3 (by rw [List.length_append, List.length_append, List.length_append]; omega) (Nat.le_refl _) h4 (by rw [← hm]; simp only [List.append_assoc])).mono ?_
    rintro e k4 ⟨v4, rfl, ho4, h⟩
    have hb3 := hb1.size
    replace hb1 := hb1.trans (h.mono hb1.size)
    have HO := Lib.hid (OwnB.down ho4 hb3)
    clear h ho4 hby3 r3
    go_wp2
    go_ret
    exact ⟨v4, rfl, HO.out, hb1⟩
theorem laOf_ok {f : Fo} (h : FoG f) (c : Nat) : (laOf f c).ok ∧ (laOf f c).txt.size ≤ 1200 := by
  by_cases hc : f.last c = 0
  · rw [laOf_no hc]
    exact ⟨⟨i64_0, i64_0, (by show (0 : Nat) ≤ 1000000; decide), i64_0⟩, (by show (0 : Nat) ≤ 1200; decide)⟩
  · rw [laOf_yes hc]
    obtain ⟨h1, h2, h3, h4, h5, h6, h7⟩ := h.yes c hc
    have hn := mayB_nums h1
    have hl := h.last_le c
    have hp := h.place
    have he := mayE_i64 h7
    have hs : (⟨(bytesB (f.told c).b).toArray⟩ : ByteArray).size ≤ 1200 := by show (bytesB (f.told c).b).toArray.size ≤ 1200; simpa using hn.2.2.2.2
    exact ⟨⟨⟨by simp only; omega, by simp only; omega⟩, ⟨by simp only; omega, by simp only; omega⟩, Nat.le_trans hs (by decide), ⟨by simp only; omega, by simp only; omega⟩⟩, hs⟩
theorem bytesL_short {f : Fo} (h : FoG f) (k : Nat) : (bytesL (fun c => laOf f (c + 1)) k).length ≤ k * 1300 := by
  induction k with
  | zero => exact Nat.le_refl _
  | succ k ih =>
    rw [bytesL_succ, List.length_append]
    have hl := (laOf_ok h (k + 1)).2
    have h1 := Nu.put_len (laOf f (k + 1)).seq
    have h2 := Nu.put_len (laOf f (k + 1)).place
    have h3 := putT_len (laOf f (k + 1)).txt
    have h4 := Nu.put_len (laOf f (k + 1)).err
    have h5 : (laB (laOf f (k + 1))).length ≤ 1300 := by
      unfold laB
      split
      · rw [List.length_append]; simp; omega
      · rw [List.length_append, List.length_append, List.length_append]; omega
    omega
theorem fencode_nil (w : World) : Calls Try.prog 18 #[.pointer none] w fun e w' => e = .returned (.slice none 0 0) ∧ w' = w := by
  go_enter Try.func18, Try.ntmps18
  go_wp2
  go_ret
  exact ⟨rfl, rfl⟩
set_option maxHeartbeats 1000000 in
theorem fencode_any (B g : Nat) (f : Fo) (w : World) (h : Fd w B g f) (hp : f.place ≤ 9223372036854775807) : Calls Try.prog 18 #[.pointer (some ⟨g, 0, none⟩)] w (Made (bytesF f) w) := by
  have hglt := h.lt
  obtain ⟨hg, hBg, dv, hr, ho⟩ := h
  have hbd := bytesD_short hg.d
  obtain ⟨d, hd⟩ : ∃ d, bytesD f.d = d := ⟨_, rfl⟩
  obtain ⟨T, hT⟩ : ∃ T : ByteArray, (⟨d.toArray⟩ : ByteArray) = T := ⟨_, rfl⟩
  have hTl : T.data.toList = d := by rw [← hT]
  have hTs : T.size ≤ 50020 := by rw [← size_list, hTl, ← hd]; exact hbd
  have he := fun W (hW : Below w.heap.size w W) => fencodeD_any w.heap.size g f.d W ⟨hglt, dv, Rb.cell (hr.below hW) rfl, (Rws.of_own ho).keep hW (Nat.le_refl _)⟩ hW.size hg.d
  rw [hd] at he
  have HE := Lib.hid he; clear he
  have HR := Lib.hid hr
  have c0 : w.cell? ⟨g, 0, none⟩ = some (.int .i64 f.place) := Rb.cell hr rfl
  have n1 := Nu.put_len f.place
  have hb := Below.refl w.heap.size w
  clear hr ho
  go_enter Try.func18, Try.ntmps18
  go_wp2_with fail
  refine (nput_to (.slice none 0 0) 0 [] (Nu.put f.place) f.place _ (d_byt_nil _ _) (by simp) (Nat.zero_le _) ⟨by have := hg.place; omega, hp⟩ rfl).mono ?_
  rintro e k1 ⟨v1, rfl, ho1, hb1⟩
  go_wp2_with fail
  refine (HE.out _ hb1).mono ?_
  rintro e k2 ⟨v2, rfl, ho2, hb2⟩
  obtain ⟨A2, c2, rfl⟩ := own_slice ho2
  have hcv := conv6 (Byt.of_own ho2) hT
  have hby1 := (Byt.of_own ho1).below hb2 (Nat.le_refl _)
  have hb12 : Below w.heap.size w k2 := hb1.trans (hb2.mono hb1.size)
  have hz12 := hb2.size
  clear ho1 ho2 hb1 hb2
  go_wp2_with fail
  refine (nputT_to v1 _ (Nu.put f.place) (Nu.put f.place ++ Nu.putT d) T _ hby1 (by omega) (by omega) hz12 (by rw [hTl])).mono ?_
  rintro e k3 ⟨v3, rfl, ho3, hb3⟩
  have hb13 : Below w.heap.size w k3 := hb12.trans (hb3.mono hb12.size)
  have ho := OwnB.down ho3 hb12.size
  have hfr := HR.out.below hb13
  have HO := Lib.hid ho
  clear ho3 hb3 hby1 hcv ho hb12
  have hrg := hfr.all
  obtain ⟨l1, hl1⟩ : ∃ l, laOf f 1 = l := ⟨_, rfl⟩
  obtain ⟨l2, hl2⟩ : ∃ l, laOf f 2 = l := ⟨_, rfl⟩
  obtain ⟨l3, hl3⟩ : ∃ l, laOf f 3 = l := ⟨_, rfl⟩
  obtain ⟨l4, hl4⟩ : ∃ l, laOf f 4 = l := ⟨_, rfl⟩
  obtain ⟨l5, hl5⟩ : ∃ l, laOf f 5 = l := ⟨_, rfl⟩
  simp only [Nat.zero_add, Nat.reduceAdd, hl1, hl2, hl3, hl4, hl5] at hrg
  obtain ⟨cl, hcl⟩ : ∃ cl, laV l1 ++ (laV l2 ++ (laV l3 ++ (laV l4 ++ laV l5))) = cl := ⟨_, rfl⟩
  rw [hcl] at hrg
  have hcll : cl.length = 20 := by rw [← hcl]; rfl
  have hil : (Try.prog.info? 62).map (·.size) = some cl.length := by rw [hcll]; exact Try.infoLast5
  have hidx : ∀ (k : Nat) (s p : Int) (t : ByteArray) (r : Int) (W : World), k < 5 → laOf f (k + 1) = ⟨s, p, t, r⟩ → (Instr.index 62 (.agg cl.toArray) (.int .i64 k)).run Try.prog W = .ok (.agg #[.int .i64 s, .int .i64 p, .string t, .int .i64 r]) W := fun k s p t r W hk h => by
    rw [← hcl]
    obtain rfl | rfl | rfl | rfl | rfl : k = 0 ∨ k = 1 ∨ k = 2 ∨ k = 3 ∨ k = 4 := by omega
    · rw [hl1] at h; subst h; kernel_rfl
    · rw [hl2] at h; subst h; kernel_rfl
    · rw [hl3] at h; subst h; kernel_rfl
    · rw [hl4] at h; subst h; kernel_rfl
    · rw [hl5] at h; subst h; kernel_rfl
  have HIDX := Lib.hid hidx
  have HHG := Lib.hid hg
  clear hcl hl1 hl2 hl3 hl4 hl5 hidx
  go_wp2_with (refine wpList_load_mid rfl 62 _ rfl g 2 rfl cl _ hrg Try.underlying62 rfl hil ?_)
  go_loopw [3, 24] (fun v i wr => ∃ k : Nat, i = .int .i64 k ∧ k ≤ 5 ∧ OwnB w.heap.size v (Nu.put f.place ++ (Nu.putT d ++ bytesL (fun c => laOf f (c + 1)) k)) wr ∧ Below w.heap.size w wr) (fun _ i _ => 5 - (intOf i).toNat)
  case atStart => exact ⟨0, rfl, by omega, by simpa [bytesL] using HO.out, hb13⟩
  case round =>
    obtain ⟨k, rfl, hk, hown, hbw⟩ := hrel
    have hsh := bytesL_short HHG.out k
    have hdl : d.length ≤ 50020 := by rw [← hd]; exact hbd
    have hpt : (Nu.putT d).length ≤ 50030 := by unfold Nu.putT; rw [List.length_append]; have := Nu.put_len (d.length : Int); omega
    clear HO hrg hfr hb13
    by_cases hk5 : k < 5
    · obtain ⟨⟨s, p, t, r⟩, hla⟩ : ∃ l, laOf f (k + 1) = l := ⟨_, rfl⟩
      have hix := fun W => HIDX.out k s p t r W hk5 hla
      obtain ⟨lo1, lo2⟩ := laOf_ok HHG.out (k + 1)
      rw [hla] at lo1 lo2
      have hpl := fun W (hW : Below wr.heap.size wr W) => fputLast_any u3 wr.heap.size (Nu.put f.place ++ (Nu.putT d ++ bytesL (fun c => laOf f (c + 1)) k)) ⟨s, p, t, r⟩ (Nu.put f.place ++ (Nu.putT d ++ bytesL (fun c => laOf f (c + 1)) (k + 1))) W ((Byt.of_own hown).below hW (Nat.le_refl _)) (by rw [List.length_append, List.length_append]; omega) hW.size lo1 lo2 (by rw [bytesL_succ]; simp only [hla, List.append_assoc])
      have HPL := Lib.hid hpl
      have HLA := Lib.hid hla
      clear hpl hown hla lo1 lo2
      go_wp2_with fail
      refine (HPL.out _ (below_one wr _)).mono ?_
      rintro e k4 ⟨v4, rfl, ho4, hb4⟩
      have hbw4 : Below w.heap.size w k4 := (hbw.alloc hbw.size _).trans (hb4.mono (by have := hbw.size; simp; omega))
      have HO4 := Lib.hid (OwnB.down ho4 (show w.heap.size ≤ _ by have := hbw.size; simp; omega))
      clear ho4 hb4 hix
      go_wp2
      go_roundw
      case rel => exact ⟨k + 1, by go_num, by omega, HO4.out, hbw4⟩
      case measure => simp [intOf]; omega
    · obtain rfl : k = 5 := by omega
      have HO5 := Lib.hid hown; clear hown
      go_wp2
      go_ret
      refine ⟨u3, rfl, ?_, hbw⟩
      unfold bytesF
      rw [hd]
      exact HO5.out
end Go.Proofs.Ytegkhkcnoahhdaa
/-
  The bytes of a good fold tell of it.
  There are no conditions beyond those that each lemma names.
-/
namespace Go.Proofs.Ytegkhkcnoahhdaa
open Go.RowKit
set_option maxRecDepth 100000

theorem rdL_back {f : Fo} (h : FoG f) (c : Nat) (r : List UInt8) (b : Bool) : rdL (laB (laOf f c) ++ r, b) = (laOf f c, (r, b)) := by
  obtain ⟨⟨q1, q2, q3, q4⟩, q5⟩ := laOf_ok h c
  by_cases hc : f.last c = 0
  · rw [laOf_no hc]
    have e : laB zLa ++ r = Nu.put 0 ++ r := by unfold laB zLa; simp
    unfold rdL
    rw [e, rdN_put 0 r b i64_0]
    rfl
  · have hl := h.last_le c
    have hs : (laOf f c).seq = f.last c := laOf_seq f c
    obtain ⟨⟨s, p, t, e⟩, hla⟩ : ∃ l, laOf f c = l := ⟨_, rfl⟩
    rw [hla] at q1 q2 q3 q4 q5 hs ⊢
    simp only at q1 q2 q3 q4 q5 hs
    have hs0 : s > 0 := by omega
    have e1 : laB ⟨s, p, t, e⟩ ++ r = Nu.put s ++ (Nu.put p ++ (Nu.putT t.data.toList ++ (Nu.put e ++ r))) := by
      unfold laB
      simp only
      rw [if_neg (by omega)]
      simp only [List.append_assoc]
    rw [e1]
    have h1 := rdN_put s (Nu.put p ++ (Nu.putT t.data.toList ++ (Nu.put e ++ r))) b q1
    have h2 := rdN_put p (Nu.putT t.data.toList ++ (Nu.put e ++ r)) b q2
    have h3 := rdT_put t.data.toList (Nu.put e ++ r) b (by rw [size_list]; omega)
    have h4 := rdN_put e r b q4
    unfold rdL
    simp only [h1, h2, h3, h4]
    rw [if_pos hs0]
theorem rdLs_back {f : Fo} (h : FoG f) (b : Bool) : ∀ (k : Nat) (r : List UInt8), rdLs k (bytesL (fun c => laOf f (c + 1)) k ++ r, b) = ((List.range k).map (fun c => laOf f (c + 1)), (r, b))
  | 0, r => rfl
  | k + 1, r => by
    rw [rdLs, bytesL_succ, List.append_assoc, rdLs_back h b k, List.range_succ, List.map_append]
    simp only
    rw [rdL_back h]
    rfl
theorem laAt_map {g : Nat → La} {n c : Nat} (h : c < n) : laAt ((List.range n).map g) c = g c := by
  unfold laAt
  rw [List.getD_eq_getElem?_getD]
  simp [h]
theorem all_of {p : Nat → Bool} {n : Nat} (h : ∀ i, i < n → p i = true) : (List.range n).all p = true := List.all_eq_true.2 (fun i hi => h i (List.mem_range.1 hi))
theorem txt_back {f : Fo} {c : Nat} (hc : f.last c ≠ 0) : (laOf f c).txt.data.toList = bytesB (f.told c).b := by rw [laOf_yes hc]
theorem mayF_back {f : Fo} (h : FoG f) (g : Nat → La) (hg : ∀ c, c < 5 → g c = laOf f (c + 1)) : mayF f.place g = true := by
  unfold mayF
  rw [Bool.and_eq_true, Bool.and_eq_true]
  refine ⟨all_of (fun i hi => ?_), decide_eq_true h.place.1, all_of (fun i hi => all_of (fun j hj => ?_))⟩
  · rw [hg i hi]
    by_cases hc : f.last (i + 1) = 0
    · rw [laOf_no hc]; rfl
    · obtain ⟨h1, h2, h3, h4, h5, h6, h7⟩ := h.yes _ hc
      have ht := txt_back hc
      unfold mayL
      rw [ht, (okB_bytes _ h1 h2).1, rBat_bytes _ h1 h2]
      simp only
      rw [h3, h4, laOf_yes hc]
      simp only [beq_self_eq_true, Bool.true_and, h7, Bool.and_true, decide_eq_true h5, decide_eq_true h6, Bool.or_true]
  · rw [hg i hi, hg j (by omega), laOf_seq]
    by_cases hc : f.last (i + 1) = 0
    · rw [hc]; rfl
    · by_cases hd : f.last (j + 1) = 0
      · rw [laOf_no hd, laOf_yes hc]
        obtain ⟨_, _, _, _, h5, _, _⟩ := h.yes _ hc
        have : ((f.told (i + 1)).place == zLa.place) = false := by rw [beq_eq_false_iff_ne]; show ¬ (f.told (i + 1)).place = 0; omega
        simp only [this, Bool.and_false, Bool.not_false]
      · rw [laOf_yes hc, laOf_yes hd]
        have : ((f.told (i + 1)).place == (f.told (j + 1)).place) = false := beq_eq_false_iff_ne.2 (h.diff _ _ (by omega) hc hd)
        simp only [this, Bool.and_false, Bool.not_false]
theorem foOf_back {f : Fo} (h : FoG f) (g : Nat → La) (hg : ∀ c, c < 5 → g c = laOf f (c + 1)) : foOf f.place f.d g = f := by
  obtain ⟨p, d, last, told⟩ := f
  unfold foOf
  congr 1
  · funext c
    by_cases hc : 1 ≤ c ∧ c ≤ 5
    · obtain ⟨i, hi, rfl⟩ : ∃ i, i < 5 ∧ c = i + 1 := ⟨c - 1, by omega, by omega⟩
      rw [if_pos hc, Nat.add_sub_cancel, hg i hi, laOf_seq]
    · rw [if_neg hc]; exact (h.out c (by omega)).symm
  · funext c
    by_cases hc : 1 ≤ c ∧ c ≤ 5
    · obtain ⟨i, hi, rfl⟩ : ∃ i, i < 5 ∧ c = i + 1 := ⟨c - 1, by omega, by omega⟩
      rw [if_pos hc, Nat.add_sub_cancel, hg i hi]
      by_cases h0 : last (i + 1) = 0
      · rw [laOf_no h0]; exact (h.no _ h0).symm
      · obtain ⟨h1, h2, _⟩ := h.yes _ h0
        have ht := txt_back (f := ⟨p, d, last, told⟩) h0
        unfold rowLa
        rw [ht, rBat_bytes _ h1 h2, laOf_seq, if_neg h0, laOf_yes h0]
    · rw [if_neg hc]; exact (h.no c (h.out c (by omega))).symm
theorem decF_bytes {f : Fo} (h : FoG f) : decF (bytesF f) = some f := by
  have hd := bytesD_short h.d
  have h1 := rdN_put f.place (Nu.putT (bytesD f.d) ++ bytesL (fun c => laOf f (c + 1)) 5) false ⟨by have := h.place; omega, h.place.2⟩
  have h2 := rdT_put (bytesD f.d) (bytesL (fun c => laOf f (c + 1)) 5) false (by omega)
  have h3 : rdD (Nu.putT (bytesD f.d) ++ bytesL (fun c => laOf f (c + 1)) 5, false) = (f.d, (bytesL (fun c => laOf f (c + 1)) 5, false)) := by
    unfold rdD
    rw [h2]
    simp only [List.toList_toArray]
    rw [decD_bytes h.d]
  have h4 := rdLs_back h false 5 []
  rw [List.append_nil] at h4
  have hr : rdF (bytesF f) = (f.place, f.d, (List.range 5).map (fun c => laOf f (c + 1)), ([], false)) := by
    unfold rdF bytesF
    simp only [h1, h3, h4]
  have hg : ∀ c, c < 5 → laAt ((List.range 5).map (fun c => laOf f (c + 1))) c = laOf f (c + 1) := fun c hc => laAt_map hc
  unfold decF
  rw [hr]
  simp only
  rw [if_neg, foOf_back h _ hg]
  rintro (h5 | h5 | h5)
  · cases h5
  · simp at h5
  · rw [mayF_back h _ hg] at h5; cases h5
theorem bytesF_short {f : Fo} (h : FoG f) : (bytesF f).length ≤ 100000 := by
  have h1 := bytesD_short h.d
  have h2 := bytesL_short h 5
  have h3 := Nu.put_len f.place
  have h4 := Nu.put_len ((bytesD f.d).length : Int)
  unfold bytesF Nu.putT
  rw [List.length_append, List.length_append, List.length_append]
  omega
end Go.Proofs.Ytegkhkcnoahhdaa
