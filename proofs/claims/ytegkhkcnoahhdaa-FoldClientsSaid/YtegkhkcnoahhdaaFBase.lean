/-
  A document that lies in a fold's memory, at its second cell: Copy, Encode, Eq and Apply, as for documents of their own.
  The document is a good one, its rows its own; the operations lie in memory, their integers are in their ranges.
-/
import Derived.Test.YtegkhkcnoahhdaaDDecode
import Derived.Test.YtegkhkcnoahhdaaDEq
import Derived.Test.YtegkhkcnoahhdaaL6Box
import Derived.Test.YtegkhkcnoahhdaaR7Kit
import Derived.Test.YtegkhkcnoahhdaaR7Next
import Derived.Test.YtegkhkcnoahhdaaDOps
import Derived.Test.YtegkhkcnoahhdaaL6Begun
import Derived.Test.YtegkhkcnoahhdaaL5Begun
set_option linter.unusedSimpArgs false
set_option linter.unusedVariables false
namespace Go.Proofs.Ytegkhkcnoahhdaa
open Go.RowKit
set_option maxRecDepth 100000

def DocF (w : World) (B g : Nat) (l : List Par) : Prop := g < B ∧ ∃ v, w.cell? ⟨g, 1, none⟩ = some v ∧ Rws w B v l
set_option maxHeartbeats 1000000 in
theorem fcopyD_any (B g : Nat) (l : List Par) (w : World) (h : DocF w B g l) (hB : B ≤ w.heap.size) (hl : l.length ≤ 1000) :
    Calls Try.prog 27 #[.pointer (some ⟨g, 1, none⟩)] w fun e w' => ∃ g' v', e = .returned (.pointer (some ⟨g', 0, none⟩)) ∧ DocO w' w.heap.size g' v' l ∧ Below w.heap.size w w' := by
  obtain ⟨hgB, v, hv, hr⟩ := h
  have hb := Below.refl w.heap.size w
  have HR := Lib.hid hr; clear hr
  go_enter Try.func27, Try.ntmps27
  go_wp2_with fail
  refine (dclone_any B v l w HR.out hB hl).mono ?_
  rintro e k1 ⟨v', rfl, hown, hb1⟩
  obtain ⟨A, m, c, rfl⟩ := own_slice3 hown
  have OWN := Lib.hid hown; clear hown
  go_wp2
  go_ret
  exact ⟨k1.heap.size, _, rfl, ⟨hb1.size, heap_alloc_new _ _, OWN.out.alloc _⟩, hb1.alloc hb1.size _⟩
set_option maxHeartbeats 1000000 in
theorem fencodeD_any (B g : Nat) (l : List Par) (w : World) (h : DocF w B g l) (hB : B ≤ w.heap.size) (hg : Gd l) : Calls Try.prog 32 #[.pointer (some ⟨g, 1, none⟩)] w (Made (bytesD l) w) := by
  obtain ⟨hgB, v, hv, A, c, rfl, hc, hcell⟩ := h
  have HC := Lib.hid hcell; clear hcell
  have hgw : g < w.heap.size := Nat.lt_of_lt_of_le hgB hB
  have hlen := hg.len
  have HG := Lib.hid hg; clear hg
  go_enter Try.func32, Try.ntmps32
  go_wp2_with fail
  refine (nput_to (.slice none 0 0) 0 [] (Nu.put (l.length : Int)) _ _ (d_byt_nil _ _) (by simp) (Nat.zero_le _) ⟨by omega, by omega⟩ rfl).mono ?_
  rintro e w1 ⟨v1, rfl, hown1, hb1⟩
  replace hv := (hb1.cell (p := ⟨g, 1, none⟩) hgw).trans hv
  have hpl := Nu.put_len (l.length : Int)
  obtain ⟨n, hn⟩ : ∃ n, l.length = n := ⟨_, rfl⟩
  have hBn : ∀ k, ((l.take k).flatMap bytesP).length ≤ k * 1000 := fun k => flatP_len HG.out k
  have HL := Lib.hid hBn; clear hBn
  have hbd : bytesD l = Nu.put (n : Int) ++ (l.take n).flatMap bytesP := by unfold bytesD; rw [List.take_of_length_le (by omega), hn]
  have HBD := Lib.hid hbd; clear hbd
  rw [hn] at hv hc hown1 hlen hpl ⊢
  have HN := Lib.hid hn; clear hn
  go_wp2
  go_loopw [3, 19] (fun v i wr => ∃ k : Nat, i = .int .i64 k ∧ k ≤ n ∧ OwnB w.heap.size v (Nu.put (n : Int) ++ (l.take k).flatMap bytesP) wr ∧ Below w.heap.size w wr) (fun _ i _ => n - (intOf i).toNat)
  case atStart => exact ⟨0, rfl, by omega, by simpa using hown1, hb1⟩
  case round =>
    obtain ⟨k, rfl, hk, hown, hbw⟩ := hrel
    clear hown1 hb1 hv
    obtain ⟨m, hm⟩ : ∃ m, Nu.put (n : Int) ++ (l.take k).flatMap bytesP = m := ⟨_, rfl⟩
    have hml : m.length ≤ 20 + k * 1000 := by rw [← hm, List.length_append]; have := HL.out k; omega
    rw [hm] at hown
    by_cases hkl : k < n
    · have hkl2 : k < l.length := by have := HN.out; omega
      obtain ⟨gr, o, rfl, hgr, hcs⟩ := HC.out (by have := HN.out; omega)
      obtain ⟨x, hx⟩ : ∃ x, l[k] = x := ⟨_, rfl⟩
      have hr := range_below (hcs k hkl2) hbw (Nat.lt_of_lt_of_le hgr hB)
      have hxin : x ∈ l := by rw [← hx]; exact List.getElem_mem ..
      have hsp : Nu.put (n : Int) ++ (l.take (k + 1)).flatMap bytesP = m ++ Nu.putT x.k.data.toList ++ putR x.v := by
        rw [← hm, List.take_add_one, List.getElem?_eq_getElem hkl2, hx]
        simp [bytesP]
      rw [hx] at hr
      have hks := HG.out.key x hxin
      obtain ⟨_, hmay, _, hok⟩ := HG.out.all x hxin
      obtain ⟨xy, ⟨vk, vn, vs⟩⟩ := x
      simp only at hks hmay hok hsp
      obtain ⟨hrw, hlw⟩ := va_back hmay
      obtain ⟨va, hva⟩ : ∃ va, vaOf ⟨vk, vn, vs⟩ = va := ⟨_, rfl⟩
      rw [hva] at hrw hlw
      obtain ⟨xv, hxv⟩ : ∃ xv, va.ins = xv := ⟨_, rfl⟩
      unfold Par.rc at hr
      simp only at hr
      rw [hva, hxv] at hr
      have hst := fun a m W => ins_store va xv hxv a m W
      have n1 := putT_len xy
      have n2 := putR_short hmay
      have HSP := Lib.hid hsp
      have HOK := Lib.hid hok
      have HMAY := Lib.hid hmay
      have HRAW := Lib.hid (fun W => vraw_is (.agg #[xv]) va vk vn vs W (by rw [hxv]) hrw (Nat.le_trans hlw hok.2.2))
      clear hsp hok hmay hx hcs hm hva hxv hrw hlw
      go_wp2_with (refine wpList_load_mid rfl 80 _ rfl gr (o + k * 2) rfl _ _ hr Try.underlying80 rfl Try.infoRow ?_)
      refine (nputT_to (.slice none 0 0) 0 [] (Nu.putT xy.data.toList) xy _ (d_byt_nil _ _) (by simp) (by omega) (Nat.zero_le _) rfl).mono ?_
      rintro e w2 ⟨v2, rfl, hown2, hb2⟩
      have hz2 := hb2.size
      simp at hz2
      have b0 : w2.cell? ⟨wr.heap.size, 0, none⟩ = some (.string xy) := (hb2.cell (p := ⟨wr.heap.size, 0, none⟩) (by simp)).trans (by go_simp)
      have b1 : w2.cell? ⟨wr.heap.size, 1, none⟩ = some xv := (hb2.cell (p := ⟨wr.heap.size, 1, none⟩) (by simp)).trans (by go_simp)
      have hbw2 : Below wr.heap.size wr w2 := (below_one wr _).trans (hb2.mono (B' := wr.heap.size) (by simp))
      have HB3 := Lib.hid hown
      have hown3 := hown.below hbw2
      have hby2 := Byt.of_own hown2
      clear hr hown hown2 hb2
      have hne3 : u3.ownBlock ≠ some wr.heap.size := fun e => by have := (hown3.lt _ e).2; have := (HB3.out.lt _ e).2; omega
      go_wp2_with (refine wpList_append_byt_at rfl _ _ rfl w.heap.size _ _ _ _ _ rfl hown3 rfl hby2 ?qa ?qb ?_)
      case qa => have : (Nu.putT xy.data.toList).length ≤ 1000 := by omega
                 omega
      case qb => have := hbw2.size; have := hbw.size; omega
      intro v4 w4 hown4 hb4 hgr4
      replace b1 := hgr4.cell b1 hne3
      have hz4 := hb4.size
      clear hown3 hby2 b0 hne3 hgr4
      have hbw4 : Below w.heap.size w w4 := (hbw.trans (hbw2.mono hbw.size)).trans hb4
      go_wp2_with fail
      refine (HRAW.out _).mono ?_
      rintro e w5 ⟨rfl, hb5⟩
      have hbw5 : Below w.heap.size w w5 := hbw4.trans (hb5.mono hbw4.size)
      have hown5 := hown4.below hb5
      have hz5 := hb5.size
      clear hown4 hbw4 hb5
      go_wp2_with fail
      refine (vput_on (.slice none 0 0) _ ⟨vk, vn, vs⟩ 0 [] (putR ⟨vk, vn, vs⟩) _ rfl (d_byt_nil _ _) (by simp) (Nat.zero_le _) HOK.out HMAY.out rfl).mono ?_
      rintro e w6 ⟨v6, rfl, hown6, hb6⟩
      have hbw6 : Below w.heap.size w w6 := hbw5.trans (hb6.mono hbw5.size)
      have hown7 := hown5.below hb6
      have hby6 := Byt.of_own hown6
      clear hown5 hbw5 hb6 hown6
      go_wp2_with (refine wpList_append_byt rfl _ _ rfl w.heap.size _ _ _ _ _ rfl hown7 rfl hby6 ?qa ?qb ?_)
      case qa => have : (Nu.putT xy.data.toList).length ≤ 1000 := by omega
                 rw [List.length_append]; omega
      case qb => exact hbw6.size
      intro v8 w8 hown8 hb8
      have HO8 := Lib.hid hown8
      have hbw8 := hbw6.trans hb8
      clear hown8 hby6 hown7 hb8
      go_wp2
      go_roundw
      case rel => exact ⟨k + 1, by go_num, by omega, by rw [HSP.out, List.append_assoc]; exact HO8.out, hbw8⟩
      case measure => simp [intOf]; omega
    · have hkn : k = n := by omega
      subst hkn
      have HOWN := Lib.hid hown; clear hown
      have HM := Lib.hid hm; clear hm
      go_wp2
      go_ret
      exact ⟨u3, rfl, by rw [HBD.out, HM.out]; exact HOWN.out, hbw⟩
set_option maxHeartbeats 1000000 in
theorem feqD_any (B g g' : Nat) (l m : List Par) (w : World) (h : DocF w B g l) (h' : DocF w B g' m) (hB : B ≤ w.heap.size) (hg : Gd l) (hg' : Gd m) : Calls Try.prog 26 #[.pointer (some ⟨g, 1, none⟩), .pointer (some ⟨g', 1, none⟩)] w (Bl (eqD l m) w) := by
  obtain ⟨hgB, v, hv, A, c, rfl, hc, hcell⟩ := h
  obtain ⟨hgB', v', hv', A', c', rfl, hc', hcell'⟩ := h'
  go_enter Try.func26, Try.ntmps26
  have hef := fun W (hb : Below w.heap.size w W) => dequalFunc_any B (.slice A l.length c) (.slice A' m.length c') l m W (Rws.keep ⟨A, c, rfl, hc, hcell⟩ hb hB) (Rws.keep ⟨A', c', rfl, hc', hcell'⟩ hb hB) (Nat.le_trans hB hb.size) hg hg'
  obtain ⟨n, hn⟩ : ∃ n, l.length = n := ⟨_, rfl⟩
  obtain ⟨n', hn'⟩ : ∃ n, m.length = n := ⟨_, rfl⟩
  simp only [hn, hn'] at hef
  have HEF := Lib.hid hef
  rw [hn] at hv
  rw [hn'] at hv'
  have HN := Lib.hid hn
  have HN' := Lib.hid hn'
  have hb : Below w.heap.size w w.drew := (Below.refl _ _).drew
  clear hef hcell hcell' hg hg' hn hn' hc hc'
  go_wp2_with fail
  go_region_held3 (fun W => W.cell? ⟨g, 1, none⟩ = some (.slice A n c) ∧ W.cell? ⟨g', 1, none⟩ = some (.slice A' n' c')) (first | exact ⟨hv, hv'⟩ | assumption) (first | (go_at_call 45; refine (HEF.out _ hb).mono ?_; rintro e k1 ⟨rfl, h⟩; have hv1 := (h.cell (p := ⟨g, 1, none⟩) (Nat.lt_of_lt_of_le hgB hB)).trans hv; have hv1' := (h.cell (p := ⟨g', 1, none⟩) (Nat.lt_of_lt_of_le hgB' hB)).trans hv'; replace hv := hv1; replace hv' := hv1'; replace hb : Below w.heap.size w k1 := hb.trans (h.mono hb.size); clear h hv1 hv1'))
  go_wp2
  go_ret
  exact ⟨rfl, by assumption⟩
/-- a store into a block of another type leaves rows of one's own -/
theorem rb_own {w : World} {B e s n G j : Nat} {v u : Value} {t : TypeId} {cs xs : List Value} (h : w.ownsRow B e s v n xs) (hb : Rb w G t cs) (hne : t ≠ e) : (w.setCell ⟨G, j, none⟩ u).ownsRow B e s v n xs := by
  refine World.ownsRow.kept h (setCell_grown w _ u) (.inr (fun e2 => ?_))
  rcases h.2 with ⟨rfl, _⟩ | ⟨g', c, cur, rfl, _, hg, _⟩
  · cases e2
  · injection e2 with e2
    simp only at e2
    subst e2
    unfold Rb at hb
    rw [hb] at hg
    injection hg with hg
    injection hg with h2 h3 h4
    exact hne h3
/-- what Apply answers, and what is there behind it -/
def ApF (B g : Nat) (t : TypeId) (cs : List Value) (l : List Par) (os : List Opn) (w : World) (e : Ending) (w' : World) : Prop :=
  e = .returned (.int .i64 ((dApply l os).2 : Nat)) ∧ (∃ v', Rb w' g t (cs.set 1 v') ∧ OwnR B v' (dApply l os).1 w' ∧ v'.oneCell' = true ∧ (∃ A m c, v' = .slice A m c)) ∧ w.grownBy w' (some g)
theorem set_same {cs : List Value} {j : Nat} {v : Value} (h : cs[j]? = some v) : cs.set j v = cs := by
  refine List.ext_getElem? (fun k => ?_)
  by_cases hk : j = k
  · subst hk
    rw [List.getElem?_set_self (by exact (List.getElem?_eq_some_iff.1 h).1), h]
  · rw [List.getElem?_set_ne hk]
theorem apF_same {B g : Nat} {t : TypeId} {cs : List Value} {v : Value} {l : List Par} {os : List Opn} {w w' : World} {k : Nat} (hr : Rb w g t cs) (hv : cs[1]? = some v) (ho : OwnR B v l w) (hb : Below w.heap.size w w') (hd : dApply l os = (l, k)) : ApF B g t cs l os w (.returned (.int .i64 k)) w' := by
  obtain ⟨A, m, c, rfl⟩ := own_slice3 ho
  exact ⟨by rw [hd], ⟨_, by rw [set_same hv]; exact hr.below hb, by rw [hd]; exact ownsRow_below ho hb, rfl, A, m, c, rfl⟩, Below.by_ hb⟩
set_option maxHeartbeats 1000000 in
theorem fapplyD_any (B g Bo : Nat) (t : TypeId) (cs : List Value) (v u : Value) (l : List Par) (os : List Opn) (w : World) (hrb : Rb w g t cs) (hcv : cs[1]? = some v) (how : OwnR B v l w) (hBg : B ≤ g) (htr : t ≠ 80) (hg : Gd l) (ho : Ops w Bo u os) (hBo : Bo ≤ w.heap.size) (hok : ∀ o ∈ os, o.ok) :
    Calls Try.prog 21 #[.pointer (some ⟨g, 1, none⟩), u] w (ApF B g t cs l os w) := by
  obtain ⟨A, c, rfl, hc, hcell⟩ := ho
  have HH := Lib.hid how
  have HRB := Lib.hid hrb
  clear how hrb
  by_cases h18 : os.length < 1 ∨ 8 < os.length
  · have hd : dApply l os = (l, 1) := by unfold dApply; rw [if_pos h18]
    have HD := Lib.hid hd
    clear hd
    rcases h18 with h1 | h1
    · go_enter Try.func21, Try.ntmps21
      go_wp2
      go_ret
      exact apF_same HRB.out hcv HH.out (Below.refl _ _) HD.out
    · go_enter Try.func21, Try.ntmps21
      go_wp2
      go_ret
      exact apF_same HRB.out hcv HH.out (Below.refl _ _) HD.out
  · have hd : dApply l os = apGo l l os := by unfold dApply; rw [if_neg h18]
    have hn1 : ¬ os.length < 1 := fun e => h18 (.inl e)
    have hn8 : ¬ 8 < os.length := fun e => h18 (.inr e)
    obtain ⟨go, oo, rfl, hgo, hcs⟩ := hcell (by omega)
    have hgw := HRB.out.lt
    have hdocR : DocF w w.heap.size g l := ⟨hgw, v, HRB.out.cell hcv, Rws.of_own HH.out⟩
    have HC := Lib.hid hcs
    have HD := Lib.hid hd
    have HG := Lib.hid hg
    have HO := Lib.hid hok
    clear hcs hcell hd h18 hg hok
    go_enter Try.func21, Try.ntmps21
    go_wp2_with fail
    refine (fcopyD_any w.heap.size g l w hdocR (Nat.le_refl _) (Nat.le_trans HG.out.len (by decide))).mono ?_
    rintro e k1 ⟨g2, v2, rfl, hnew, hb⟩
    have hg2 := hnew.lo
    have HN := Lib.hid hnew
    clear hnew hdocR
    have hokN := HN.out.lt
    go_wp2
    go_loopw [25] (fun i wr => ∃ (k : Nat) (x : List Par) (v3 : Value), i = .int .i64 k ∧ k ≤ os.length ∧ DocO wr w.heap.size g2 v3 x ∧ Gd x ∧ apGo l x (os.drop k) = apGo l l os ∧ Below w.heap.size w wr) (fun i _ => os.length - (intOf i).toNat)
    case atStart => exact ⟨0, l, v2, rfl, by omega, HN.out, HG.out, by simp, hb⟩
    case round =>
      obtain ⟨k, x, v3, rfl, hk, hdo, hgx, hap, hbw⟩ := hrel
      have HDO := Lib.hid hdo
      have HGX := Lib.hid hgx
      have hgr := HDO.out.lt
      clear hdo hgx
      by_cases hkl : k < os.length
      · obtain ⟨y, hy⟩ : ∃ y, os[k] = y := ⟨_, rfl⟩
        have hr := HC.out k hkl
        have hyok := HO.out os[k] (List.getElem_mem ..)
        rw [hy] at hr hyok
        rw [List.drop_eq_getElem_cons hkl, hy, apGo_cons] at hap
        have hr2 := range_below hr hbw (Nat.lt_of_lt_of_le hgo hBo)
        clear hr hy
        have HX := Lib.hid hyok; clear hyok
        have HAP := Lib.hid hap; clear hap
        obtain ⟨q, hq⟩ : ∃ q, opErr x y = q := ⟨_, rfl⟩
        have HQ := Lib.hid hq; clear hq
        have hdo := fun W (hb : Below wr.heap.size wr W) => ddo_any w.heap.size g2 v3 x y W (HDO.out.below hb) HGX.out HX.out
        obtain ⟨xk, xkey, ⟨xvk, xvn, xvs⟩, ⟨xok, xon, xos⟩, xn⟩ := y
        have HDD := Lib.hid hdo; clear hdo
        unfold Opn.cs at hr2
        simp only at hr2
        go_wp2_with (refine wpList_load_mid rfl 38 _ rfl go (oo + k * 9) rfl _ _ hr2 Try.underlying38 rfl Try.infoOp ?_)
        refine (HDD.out _ (below_one wr _)).mono ?_
        rintro e w1 ⟨rfl, hdo2, hb1⟩
        rw [HQ.out] at hdo2
        rw [HQ.out]
        have hbw1 : Below w.heap.size w w1 := (hbw.alloc hbw.size _).trans hb1
        have HD2 := Lib.hid hdo2
        clear hr2 hb1 hdo2
        by_cases hq0 : q = 0
        · subst hq0
          obtain ⟨v4, hd4⟩ := HD2.out rfl
          have HF := Lib.hid hd4; clear hd4
          go_wp2
          go_roundw
          case rel => exact ⟨k + 1, _, v4, by go_num, by omega, HF.out, HGX.out.op HX.out HQ.out, by have := HAP.out; rw [if_pos HQ.out] at this; exact this, hbw1⟩
          case measure => simp [intOf]; omega
        · have hqb : ((q : Int) != 0) = true := by simp; omega
          have hqc : ¬ ((q : Int) = 0) := by omega
          go_wp2
          go_ret
          exact apF_same HRB.out hcv HH.out hbw1 (by rw [HD.out, ← HAP.out, if_neg (by rw [HQ.out]; exact hq0), HQ.out])
      · have hkn : os.length ≤ k := by omega
        rw [List.drop_of_length_le hkn] at hap
        have hap2 : apGo l l os = (x, 0) := by rw [← hap]; rfl
        have HAP := Lib.hid hap2; clear hap hap2
        obtain ⟨A3, m3, c3, rfl⟩ := own_slice3 HDO.out.own
        have r2 := cell_one HDO.out.here
        have hgb : g < wr.heap.size := Nat.lt_of_lt_of_le hgw hbw.size
        have hh := HRB.out.below hbw
        have r1 := hh.cell hcv
        have f1 := hh.frz 1
        have hne : g2 ≠ g := by omega
        have HHH := Lib.hid hh; clear hh
        go_wp2
        go_ret
        refine ⟨by rw [HD.out, HAP.out]; rfl, ⟨.slice A3 m3 c3, HHH.out.set 1 _, ?_, rfl, A3, m3, c3, rfl⟩, grownBy_trans (Below.by_ hbw) (setCell_grown wr _ _)⟩
        rw [HD.out, HAP.out]
        exact rb_own (ownsRow_down HDO.out.own (Nat.le_trans hBg (Nat.le_of_lt hgw))) HHH.out htr
end Go.Proofs.Ytegkhkcnoahhdaa
/-
  A fold's bytes, and the fold that bytes tell of, as plain functions: bytes of a good fold tell of it; bytes that tell of one are its own.
  The bytes are at most 1,000,000.
-/
namespace Go.Proofs.Ytegkhkcnoahhdaa
open Go.RowKit
set_option maxRecDepth 100000

/-- a client's last batch, as the program keeps it -/
structure La where
  seq : Int
  place : Int
  txt : ByteArray
  err : Int
def zLa : La := ⟨0, 0, ⟨#[]⟩, 0⟩
def zRw : Rw := ⟨0, ⟨0, 0, []⟩, 0⟩
def fo0 : Fo := ⟨0, [], fun _ => 0, fun _ => zRw⟩
def mayE (e : Int) : Bool := e == 0 || e == 6 || e == 7 || e == 8 || e == 4
/-- a fold as it should be -/
structure FoG (f : Fo) : Prop where
  d : Gd f.d
  place : 0 ≤ f.place ∧ f.place ≤ 9223372036854775807
  no : ∀ c, f.last c = 0 → f.told c = zRw
  yes : ∀ c, f.last c ≠ 0 → mayB (f.told c).b = true ∧ (f.told c).b.ok ∧ (f.told c).b.client = (c : Int) ∧ (f.told c).b.seq = f.last c ∧ 1 ≤ (f.told c).place ∧ (f.told c).place ≤ f.place ∧ mayE (f.told c).err = true
  diff : ∀ a b, a ≠ b → f.last a ≠ 0 → f.last b ≠ 0 → (f.told a).place ≠ (f.told b).place
theorem mayB_nums {b : Bat} (h : mayB b = true) : 1 ≤ b.client ∧ b.client ≤ 5 ∧ 1 ≤ b.seq ∧ b.seq ≤ 1099511627776 ∧ (bytesB b).length ≤ 1200 := by
  unfold mayB at h
  simp only [Bool.and_eq_true, decide_eq_true_eq] at h
  exact ⟨h.1.1.1.1.1, h.1.1.1.1.2, h.1.1.1.2, h.1.1.2, h.2⟩
theorem FoG.last_le {f : Fo} (h : FoG f) (c : Nat) : 0 ≤ f.last c ∧ f.last c ≤ 1099511627776 := by
  by_cases hc : f.last c = 0
  · rw [hc]; exact ⟨by omega, by omega⟩
  · obtain ⟨h1, _, _, h2, _⟩ := h.yes c hc
    have := mayB_nums h1
    omega
theorem FoG.out {f : Fo} (h : FoG f) (c : Nat) (hc : c = 0 ∨ 5 < c) : f.last c = 0 := by
  by_cases h0 : f.last c = 0
  · exact h0
  · obtain ⟨h1, _, h2, _⟩ := h.yes c h0
    have := mayB_nums h1
    omega
theorem foG_0 : FoG fo0 := ⟨gd_nil, ⟨by decide, by decide⟩, fun _ _ => rfl, fun c h => absurd rfl h, fun a _ _ h => absurd rfl h⟩
theorem mayE_i64 {e : Int} (h : mayE e = true) : 0 ≤ e ∧ e ≤ 8 := by
  unfold mayE at h
  simp only [Bool.or_eq_true, beq_iff_eq] at h
  omega
theorem fapGo_err : ∀ (os : List Opn) (d0 x : List Par), (∀ o ∈ os, mayO o = true) → mayE ((apGo d0 x os).2 : Nat) = true
  | [], _, _, _ => rfl
  | o :: t, d0, x, h => by
    rw [apGo_cons]
    by_cases he : opErr x o = 0
    · rw [if_pos he]; exact fapGo_err t _ _ (fun o ho => h o (by simp [ho]))
    · rw [if_neg he]
      have hm := h o (by simp)
      unfold opErr
      rw [if_neg (by rw [hm]; decide)]
      repeat' split
      all_goals rfl
theorem fdApply_err {l : List Par} {b : Bat} (h : mayB b = true) : mayE ((dApply l b.ops).2 : Nat) = true := by
  have hl := mayB_len h
  unfold dApply
  rw [if_neg (by omega)]
  exact fapGo_err _ _ _ (mayB_ops h)
theorem FoG.next {f : Fo} {b : Bat} (h : FoG f) (hb : b.ok) (hn : nextB f b = true) (hp : f.place ≤ 1000000000000000) : FoG (nextFo f b) := by
  unfold nextB at hn
  rw [Bool.and_eq_true] at hn
  obtain ⟨hm, hs⟩ := hn
  have hnum := mayB_nums hm
  have hp0 := h.place.1
  have hne : ∀ c : Nat, (c = b.client.toNat) ↔ ((c : Int) = b.client) := fun c => by omega
  refine ⟨h.d.apply hb.2.2, ⟨by unfold nextFo; simp only; omega, by unfold nextFo; simp only; omega⟩, fun c => ?_, fun c => ?_, fun a d => ?_⟩
  · unfold nextFo upd
    by_cases hc : c = b.client.toNat
    · simp only [hc, if_pos]; intro h0; omega
    · simp only [if_neg hc]; exact h.no c
  · unfold nextFo upd
    by_cases hc : c = b.client.toNat
    · simp only [hc, if_pos]
      intro _
      refine ⟨hm, hb, by have := (hne c).1 hc; unfold rowOfB; simp only; omega, rfl, by unfold rowOfB; simp only; omega, by unfold rowOfB; simp only; omega, fdApply_err hm⟩
    · simp only [if_neg hc]
      intro h0
      obtain ⟨h1, h2, h3, h4, h5, h6, h7⟩ := h.yes c h0
      exact ⟨h1, h2, h3, h4, h5, by omega, h7⟩
  · unfold nextFo upd
    intro hne2
    by_cases ha : a = b.client.toNat
    · have hd : ¬ d = b.client.toNat := fun e => hne2 (ha.trans e.symm)
      simp only [if_neg hd, if_pos ha]
      intro _ h0
      obtain ⟨_, _, _, _, _, h6, _⟩ := h.yes d h0
      unfold rowOfB; simp only; omega
    · by_cases hd : d = b.client.toNat
      · simp only [if_neg ha, if_pos hd]
        intro h0 _
        obtain ⟨_, _, _, _, _, h6, _⟩ := h.yes a h0
        unfold rowOfB; simp only; omega
      · simp only [if_neg ha, if_neg hd]
        exact h.diff a d hne2
theorem FoG.fok {f : Fo} (h : FoG f) (hp : f.place ≤ 1000000000000000) : f.ok :=
  ⟨⟨h.place.1, hp⟩, fun c => by have := h.last_le c; omega, Nat.le_trans h.d.len (by decide), fun p hp => Nat.le_trans (h.d.key p hp) (by decide)⟩
/-- what the program keeps of client c -/
def laOf (f : Fo) (c : Nat) : La := if f.last c = 0 then zLa else ⟨f.last c, (f.told c).place, ⟨(bytesB (f.told c).b).toArray⟩, (f.told c).err⟩
theorem laOf_seq (f : Fo) (c : Nat) : (laOf f c).seq = f.last c := by
  unfold laOf; split
  · next h => rw [h]; rfl
  · rfl
theorem laOf_no {f : Fo} {c : Nat} (h : f.last c = 0) : laOf f c = zLa := by unfold laOf; rw [if_pos h]
theorem laOf_yes {f : Fo} {c : Nat} (h : f.last c ≠ 0) : laOf f c = ⟨f.last c, (f.told c).place, ⟨(bytesB (f.told c).b).toArray⟩, (f.told c).err⟩ := by unfold laOf; rw [if_neg h]
def laB (l : La) : List UInt8 := Nu.put l.seq ++ (if l.seq = 0 then [] else Nu.put l.place ++ (Nu.putT l.txt.data.toList ++ Nu.put l.err))
def bytesL (g : Nat → La) (k : Nat) : List UInt8 := (List.range k).flatMap fun c => laB (g c)
theorem bytesL_succ (g : Nat → La) (k : Nat) : bytesL g (k + 1) = bytesL g k ++ laB (g k) := by
  unfold bytesL; rw [List.range_succ, List.flatMap_append]; simp
theorem bytesL_congr {g g' : Nat → La} : ∀ (k : Nat), (∀ i, i < k → g i = g' i) → bytesL g k = bytesL g' k
  | 0, _ => rfl
  | k + 1, h => by rw [bytesL_succ, bytesL_succ, bytesL_congr k (fun i hi => h i (by omega)), h k (by omega)]
def bytesF (f : Fo) : List UInt8 := Nu.put f.place ++ (Nu.putT (bytesD f.d) ++ bytesL (fun c => laOf f (c + 1)) 5)
/-- a fold's lasts, as they are read or kept -/
structure La.ok (l : La) : Prop where
  seq : i64 l.seq
  place : i64 l.place
  txt : l.txt.size ≤ 1000000
  err : i64 l.err
/-- the reader's state: what rests, and whether a part could not be read -/
abbrev RdS := List UInt8 × Bool
def rdN (s : RdS) : Int × RdS := ((Nu.get s.1).1, if (Nu.get s.1).2.2 = 0 then (s.1.drop (Nu.get s.1).2.1, s.2) else ([], true))
def rdT (s : RdS) : ByteArray × RdS := (⟨(Nu.getT s.1).1.toArray⟩, if (Nu.getT s.1).2.2 = 0 then (s.1.drop (Nu.getT s.1).2.1, s.2) else ([], true))
def rdD (s : RdS) : List Par × RdS := match decD (rdT s).1.data.toList with
  | some x => (x, (rdT s).2)
  | none => ([], ((rdT s).2.1, true))
def rdL (s : RdS) : La × RdS :=
  if (rdN s).1 > 0 then (⟨(rdN s).1, (rdN (rdN s).2).1, (rdT (rdN (rdN s).2).2).1, (rdN (rdT (rdN (rdN s).2).2).2).1⟩, (rdN (rdT (rdN (rdN s).2).2).2).2)
  else (⟨(rdN s).1, 0, ⟨#[]⟩, 0⟩, (rdN s).2)
/-- k lasts, one behind the other -/
def rdLs : Nat → RdS → List La × RdS
  | 0, s => ([], s)
  | k + 1, s => ((rdLs k s).1 ++ [(rdL (rdLs k s).2).1], (rdL (rdLs k s).2).2)
theorem rdLs_len (k : Nat) (s : RdS) : (rdLs k s).1.length = k := by
  induction k with
  | zero => rfl
  | succ k ih => rw [rdLs]; simp [ih]
/-- may l be client c's last in a fold of that place? -/
def mayL (p : Int) (c : Nat) (l : La) : Bool := l.seq == 0 || (okB l.txt.data.toList && (rBat l.txt.data.toList).1.client == (c : Int) && (rBat l.txt.data.toList).1.seq == l.seq && (decide (1 ≤ l.place) && decide (l.place ≤ p) && mayE l.err))
/-- of the lasts ahead of k, none at client k's place -/
def difA (g : Nat → La) (k : Nat) : Bool := (List.range k).all fun j => !(decide ((g k).seq > 0) && (g k).place == (g j).place)
def difL (g : Nat → La) : Bool := (List.range 5).all (difA g)
def mayF (p : Int) (g : Nat → La) : Bool := ((List.range 5).all fun i => mayL p (i + 1) (g i)) && (decide (0 ≤ p) && difL g)
def laAt (l : List La) (i : Nat) : La := l.getD i zLa
def rowLa (l : La) : Rw := if l.seq = 0 then zRw else ⟨l.place, (rBat l.txt.data.toList).1, l.err⟩
def foOf (p : Int) (d : List Par) (g : Nat → La) : Fo := ⟨p, d, fun c => if 1 ≤ c ∧ c ≤ 5 then (g (c - 1)).seq else 0, fun c => if 1 ≤ c ∧ c ≤ 5 then rowLa (g (c - 1)) else zRw⟩
/-- the reader's whole way: place, document, lasts -/
def rdF (l : List UInt8) : Int × List Par × List La × RdS :=
  ((rdN (l, false)).1, (rdD (rdN (l, false)).2).1, (rdLs 5 (rdD (rdN (l, false)).2).2).1, (rdLs 5 (rdD (rdN (l, false)).2).2).2)
def decF (l : List UInt8) : Option Fo :=
  if (rdF l).2.2.2.2 = true ∨ 0 < (rdF l).2.2.2.1.length ∨ mayF (rdF l).1 (laAt (rdF l).2.2.1) = false then none
  else some (foOf (rdF l).1 (rdF l).2.1 (laAt (rdF l).2.2.1))
theorem rdN_ok {s : RdS} (h : (rdN s).2.2 = false) : s.2 = false ∧ s.1 = Nu.put (rdN s).1 ++ (rdN s).2.1 ∧ i64 (rdN s).1 := by
  unfold rdN at *
  by_cases he : (Nu.get s.1).2.2 = 0
  · rw [if_pos he] at h ⊢
    have hg := Nu.get_canon s.1 (Nu.get s.1).1 (Nu.get s.1).2.1 (by rw [← he])
    have hs := Nu.get_split s.1 (Nu.get s.1).1 (Nu.get s.1).2.1 (by rw [← he])
    exact ⟨h, hs, hg.2.2.1, hg.2.2.2⟩
  · rw [if_neg he] at h; cases h
theorem rdT_ok {s : RdS} (h : (rdT s).2.2 = false) : s.2 = false ∧ s.1 = Nu.putT (rdT s).1.data.toList ++ (rdT s).2.1 := by
  unfold rdT at *
  by_cases he : (Nu.getT s.1).2.2 = 0
  · rw [if_pos he] at h ⊢
    have hg := Nu.getT_canon s.1 (Nu.getT s.1).1 (Nu.getT s.1).2.1 (by rw [← he])
    exact ⟨h, by simpa using hg.1⟩
  · rw [if_neg he] at h; cases h
theorem rdN_put (n : Int) (r : List UInt8) (b : Bool) (h : i64 n) : rdN (Nu.put n ++ r, b) = (n, (r, b)) := by
  unfold rdN
  simp only [Nu.get_put n r h.1 h.2]
  simp
theorem rdT_put (t : List UInt8) (r : List UInt8) (b : Bool) (h : t.length ≤ 1000000) : rdT (Nu.putT t ++ r, b) = (⟨t.toArray⟩, (r, b)) := by
  unfold rdT
  simp only [Nu.getT_putT t r (by omega)]
  simp
theorem rdN_len (s : RdS) : (rdN s).2.1.length ≤ s.1.length := by
  unfold rdN; split
  · simp
  · simp
theorem rdT_len (s : RdS) : (rdT s).2.1.length ≤ s.1.length := by
  unfold rdT; split
  · simp
  · simp
theorem rdT_size (s : RdS) : (rdT s).1.size ≤ s.1.length := rTxt_size s.1
theorem rdN_i64 (s : RdS) : i64 (rdN s).1 := get_i64 s.1
theorem rdD_ok {s : RdS} (hl : s.1.length ≤ 1000000) (h : (rdD s).2.2 = false) : s.2 = false ∧ s.1 = Nu.putT (bytesD (rdD s).1) ++ (rdD s).2.1 := by
  unfold rdD at h ⊢
  have hsz : (rdT s).1.data.toList.length ≤ 1000000 := by
    have := rdT_size s
    rw [← size_list] at this; omega
  cases hd : decD (rdT s).1.data.toList with
  | none => rw [hd] at h; cases h
  | some x =>
    rw [hd] at h
    simp only at h ⊢
    obtain ⟨h1, h2⟩ := rdT_ok h
    refine ⟨h1, ?_⟩
    rw [decD_canon hsz hd]; exact h2
theorem rdD_len (s : RdS) : (rdD s).2.1.length ≤ s.1.length := by
  have := rdT_len s
  unfold rdD; split <;> exact this
theorem rdL_len (s : RdS) : (rdL s).2.1.length ≤ s.1.length := by
  unfold rdL
  have h1 := rdN_len s
  have h2 := rdN_len (rdN s).2
  have h3 := rdT_len (rdN (rdN s).2).2
  have h4 := rdN_len (rdT (rdN (rdN s).2).2).2
  split
  · simp only; omega
  · exact h1
theorem rdLs_rest (k : Nat) (s : RdS) : (rdLs k s).2.1.length ≤ s.1.length := by
  induction k with
  | zero => exact Nat.le_refl _
  | succ k ih => rw [rdLs]; exact Nat.le_trans (rdL_len _) ih
theorem rdL_la (s : RdS) (hl : s.1.length ≤ 1000000) : (rdL s).1.ok := by
  unfold rdL
  split
  · refine ⟨rdN_i64 _, rdN_i64 _, ?_, rdN_i64 _⟩
    have h1 := rdN_len s
    have h2 := rdN_len (rdN s).2
    have h3 := rdT_size (rdN (rdN s).2).2
    simp only; omega
  · exact ⟨rdN_i64 _, i64_0, (by show (0 : Nat) ≤ 1000000; decide), i64_0⟩
/-- a last that could be read, and whose number is none below 0 -/
theorem rdL_ok {s : RdS} (h : (rdL s).2.2 = false) : s.2 = false ∧ (0 ≤ (rdL s).1.seq → s.1 = laB (rdL s).1 ++ (rdL s).2.1) := by
  unfold rdL at h ⊢
  by_cases hp : (rdN s).1 > 0
  · rw [if_pos hp] at h ⊢
    simp only at h ⊢
    obtain ⟨a1, a2, _⟩ := rdN_ok h
    obtain ⟨b1, b2⟩ := rdT_ok a1
    obtain ⟨c1, c2, _⟩ := rdN_ok b1
    obtain ⟨d1, d2, _⟩ := rdN_ok c1
    refine ⟨d1, fun _ => ?_⟩
    unfold laB
    simp only
    rw [if_neg (by omega)]
    conv => lhs; rw [d2, c2, b2, a2]
    simp only [List.append_assoc]
  · rw [if_neg hp] at h ⊢
    simp only at h ⊢
    obtain ⟨d1, d2, _⟩ := rdN_ok h
    refine ⟨d1, fun h0 => ?_⟩
    unfold laB
    simp only
    rw [if_pos (by omega), List.append_nil]; exact d2
theorem rdLs_ok : ∀ (k : Nat) {s : RdS}, (rdLs k s).2.2 = false → s.2 = false ∧ ((∀ i, i < k → 0 ≤ (laAt (rdLs k s).1 i).seq) → s.1 = bytesL (laAt (rdLs k s).1) k ++ (rdLs k s).2.1)
  | 0, s, h => ⟨h, fun _ => rfl⟩
  | k + 1, s, h => by
    rw [rdLs] at h ⊢
    simp only at h ⊢
    obtain ⟨h1, h2⟩ := rdL_ok h
    obtain ⟨h3, h4⟩ := rdLs_ok k h1
    have hk := rdLs_len k s
    have hat : ∀ i, i < k → laAt ((rdLs k s).1 ++ [(rdL (rdLs k s).2).1]) i = laAt (rdLs k s).1 i := fun i hi => by
      unfold laAt
      simp only [List.getD_eq_getElem?_getD]
      rw [List.getElem?_append_left (by omega)]
    have hlast : laAt ((rdLs k s).1 ++ [(rdL (rdLs k s).2).1]) k = (rdL (rdLs k s).2).1 := by
      unfold laAt
      simp only [List.getD_eq_getElem?_getD]
      rw [List.getElem?_append_right (by omega)]
      simp [hk]
    refine ⟨h3, fun h0 => ?_⟩
    rw [bytesL_succ, hlast, List.append_assoc]
    have e1 := h4 (fun i hi => by have := h0 i (by omega); rwa [hat i hi] at this)
    have e2 := h2 (by have := h0 k (by omega); rwa [hlast] at this)
    have e3 : bytesL (laAt ((rdLs k s).1 ++ [(rdL (rdLs k s).2).1])) k = bytesL (laAt (rdLs k s).1) k := by
      exact bytesL_congr k hat
    rw [e3]
    conv => lhs; rw [e1, e2]
theorem all_range {p : Nat → Bool} {n : Nat} (h : (List.range n).all p = true) (i : Nat) (hi : i < n) : p i = true := List.all_eq_true.1 h i (List.mem_range.2 hi)
theorem okB_back {l : List UInt8} (h : okB l = true) : mayB (rBat l).1 = true ∧ bytesB (rBat l).1 = l := by
  unfold okB at h
  rw [Bool.and_eq_true] at h
  exact ⟨h.1, eq_of_beq h.2⟩
theorem bytes_back (S : ByteArray) : (⟨S.data.toList.toArray⟩ : ByteArray) = S := by simp
set_option maxHeartbeats 1000000 in
/-- bytes that tell of a fold are its own -/
theorem decF_yes {l : List UInt8} {f : Fo} (hl : l.length ≤ 1000000) (hgd : Gd (rdF l).2.1) (h : decF l = some f) : FoG f ∧ bytesF f = l ∧ f = foOf (rdF l).1 (rdF l).2.1 (laAt (rdF l).2.2.1) ∧ ∀ c, c < 5 → laOf f (c + 1) = laAt (rdF l).2.2.1 c := by
  unfold decF at h
  by_cases hc : (rdF l).2.2.2.2 = true ∨ 0 < (rdF l).2.2.2.1.length ∨ mayF (rdF l).1 (laAt (rdF l).2.2.1) = false
  · rw [if_pos hc] at h; cases h
  rw [if_neg hc] at h
  injection h with h
  obtain ⟨q1, q2, q3⟩ : (rdF l).2.2.2.2 = false ∧ (rdF l).2.2.2.1 = [] ∧ mayF (rdF l).1 (laAt (rdF l).2.2.1) = true := by
    refine ⟨?_, ?_, ?_⟩
    · cases hx : (rdF l).2.2.2.2 with
      | false => rfl
      | true => exact absurd (.inl hx) hc
    · cases hx : (rdF l).2.2.2.1 with
      | nil => rfl
      | cons a t => exact absurd (.inr (.inl (by rw [hx]; simp))) hc
    · cases hx : mayF (rdF l).1 (laAt (rdF l).2.2.1) with
      | true => rfl
      | false => exact absurd (.inr (.inr hx)) hc
  clear hc
  obtain ⟨p, hp⟩ : ∃ p, (rdF l).1 = p := ⟨_, rfl⟩
  obtain ⟨d, hd⟩ : ∃ d, (rdF l).2.1 = d := ⟨_, rfl⟩
  obtain ⟨ls, hls⟩ : ∃ d, (rdF l).2.2.1 = d := ⟨_, rfl⟩
  rw [hp, hd, hls] at h
  rw [hd] at hgd
  rw [hp, hls] at q3
  rw [hp, hd, hls]
  unfold mayF at q3
  simp only [Bool.and_eq_true, decide_eq_true_eq] at q3
  obtain ⟨m1, m2, m3⟩ := q3
  have hls2 : (rdLs 5 (rdD (rdN (l, false)).2).2).1 = ls := by unfold rdF at hls; simp only at hls; exact hls
  have hlen : ls.length = 5 := by rw [← hls2]; exact rdLs_len 5 _
  obtain ⟨n1, n3⟩ : i64 p ∧ ((∀ i, i < 5 → 0 ≤ (laAt ls i).seq) → l = Nu.put p ++ (Nu.putT (bytesD d) ++ bytesL (laAt ls) 5)) := by
    unfold rdF at hp hd hls q1 q2
    simp only at hp hd hls q1 q2
    obtain ⟨a1, a2⟩ := rdLs_ok 5 q1
    obtain ⟨b1, b2⟩ := rdD_ok (Nat.le_trans (rdN_len _) hl) a1
    obtain ⟨_, c2, c3⟩ := rdN_ok b1
    rw [hp] at c2 c3
    rw [hd] at b2
    rw [hls, q2, List.append_nil] at a2
    exact ⟨c3, fun h0 => by have e := a2 h0; rw [← e, ← b2]; exact c2⟩
  have hla : ∀ i, i < 5 → mayL p (i + 1) (laAt ls i) = true := fun i hi => all_range m1 i hi
  have hsz : ∀ i, i < 5 → (laAt ls i).txt.size ≤ 1000000 := fun i hi => by
    have hk : ∀ (k : Nat) (s : RdS), s.1.length ≤ 1000000 → ∀ x ∈ (rdLs k s).1, x.ok := fun k => by
      induction k with
      | zero => intro s _ x hx; cases hx
      | succ k ih =>
        intro s hs x hx
        rw [rdLs] at hx
        simp only [List.mem_append, List.mem_singleton] at hx
        rcases hx with hx | rfl
        · exact ih s hs x hx
        · exact rdL_la _ (Nat.le_trans (rdLs_rest k s) hs)
    have hin : laAt ls i ∈ ls := by
      unfold laAt
      rw [List.getD_eq_getElem?_getD, List.getElem?_eq_getElem (by omega)]
      exact List.getElem_mem ..
    refine (hk 5 (rdD (rdN (l, false)).2).2 ?_ _ ?_).txt
    · exact Nat.le_trans (rdD_len _) (Nat.le_trans (rdN_len _) hl)
    · rw [hls2]; exact hin
  have hseq : ∀ i, i < 5 → 0 ≤ (laAt ls i).seq := fun i hi => by
    have := hla i hi
    unfold mayL at this
    simp only [Bool.or_eq_true, Bool.and_eq_true, beq_iff_eq, decide_eq_true_eq] at this
    rcases this with h0 | ⟨⟨⟨h1, _⟩, h2⟩, _⟩
    · omega
    · have := mayB_nums (okB_back h1).1
      omega
  have hyes : ∀ i, i < 5 → (laAt ls i).seq ≠ 0 → okB (laAt ls i).txt.data.toList = true ∧ (rBat (laAt ls i).txt.data.toList).1.client = ((i + 1 : Nat) : Int) ∧ (rBat (laAt ls i).txt.data.toList).1.seq = (laAt ls i).seq ∧ 1 ≤ (laAt ls i).place ∧ (laAt ls i).place ≤ p ∧ mayE (laAt ls i).err = true := fun i hi h0 => by
    have := hla i hi
    unfold mayL at this
    simp only [Bool.or_eq_true, Bool.and_eq_true, beq_iff_eq, decide_eq_true_eq] at this
    rcases this with h1 | ⟨⟨⟨h1, h2⟩, h3⟩, ⟨h4, h5⟩, h6⟩
    · exact absurd h1 h0
    · exact ⟨h1, h2, h3, h4, h5, h6⟩
  have hrow : ∀ i, i < 5 → laAt ls i = zLa ∨ (laAt ls i).seq ≠ 0 := fun i hi => by
    by_cases h0 : (laAt ls i).seq = 0
    · left
      have hk : ∀ (k : Nat) (s : RdS), ∀ x ∈ (rdLs k s).1, x.seq = 0 → x = zLa := fun k => by
        induction k with
        | zero => intro s x hx; cases hx
        | succ k ih =>
          intro s x hx h0
          rw [rdLs] at hx
          simp only [List.mem_append, List.mem_singleton] at hx
          rcases hx with hx | rfl
          · exact ih s x hx h0
          · unfold rdL at h0 ⊢
            split
            · next h => rw [if_pos h] at h0; simp only at h0; omega
            · next h => rw [if_neg h] at h0; simp only at h0; rw [h0]; rfl
      refine hk 5 (rdD (rdN (l, false)).2).2 _ ?_ h0
      have hin : laAt ls i ∈ ls := by
        unfold laAt
        rw [List.getD_eq_getElem?_getD, List.getElem?_eq_getElem (by omega)]
        exact List.getElem_mem ..
      rw [hls2]; exact hin
    · exact .inr h0
  subst h
  have hlast : ∀ c, c < 5 → (foOf p d (laAt ls)).last (c + 1) = (laAt ls c).seq := fun c hc => by
    unfold foOf; simp only; rw [if_pos (by omega)]; simp
  have htold : ∀ c, c < 5 → (foOf p d (laAt ls)).told (c + 1) = rowLa (laAt ls c) := fun c hc => by
    unfold foOf; simp only; rw [if_pos (by omega)]; simp
  have hcs : ∀ c, (foOf p d (laAt ls)).last c ≠ 0 → ∃ i, i < 5 ∧ c = i + 1 := fun c h0 => by
    unfold foOf at h0; simp only at h0
    by_cases hc : 1 ≤ c ∧ c ≤ 5
    · exact ⟨c - 1, by omega, by omega⟩
    · rw [if_neg hc] at h0; exact absurd rfl h0
  have hlaof : ∀ c, c < 5 → laOf (foOf p d (laAt ls)) (c + 1) = laAt ls c := fun c hc => by
    rcases hrow c hc with h0 | h0
    · rw [laOf_no (by rw [hlast c hc, h0]; rfl), h0]
    · rw [laOf_yes (by rw [hlast c hc]; exact h0), hlast c hc, htold c hc]
      unfold rowLa
      rw [if_neg h0]
      simp only
      rw [(okB_back (hyes c hc h0).1).2]
  refine ⟨⟨hgd, ⟨m2, n1.2⟩, fun c h0 => ?_, fun c h0 => ?_, fun a b hab ha hb => ?_⟩, ?_, rfl, hlaof⟩
  · by_cases hc : 1 ≤ c ∧ c ≤ 5
    · obtain ⟨i, hi, rfl⟩ : ∃ i, i < 5 ∧ c = i + 1 := ⟨c - 1, by omega, by omega⟩
      rw [hlast i hi] at h0
      rw [htold i hi]; unfold rowLa; rw [if_pos h0]
    · unfold foOf; simp only; rw [if_neg hc]
  · obtain ⟨i, hi, rfl⟩ := hcs c h0
    rw [hlast i hi] at h0
    obtain ⟨h1, h2, h3, h4, h5, h6⟩ := hyes i hi h0
    rw [htold i hi, hlast i hi]
    unfold rowLa
    rw [if_neg h0]
    refine ⟨(okB_back h1).1, rBat_ok _ ?_, h2, h3, h4, h5, h6⟩
    have := hsz i hi
    rw [← size_list] at this; exact this
  · obtain ⟨i, hi, rfl⟩ := hcs a ha
    obtain ⟨j, hj, rfl⟩ := hcs b hb
    rw [hlast i hi] at ha
    rw [hlast j hj] at hb
    rw [htold i hi, htold j hj]
    unfold rowLa
    rw [if_neg ha, if_neg hb]
    simp only
    have hd : ∀ x y, x < 5 → y < x → (laAt ls x).seq ≠ 0 → (laAt ls x).place ≠ (laAt ls y).place := fun x y hx hy h0 e => by
      have h1 := all_range m3 x hx
      unfold difA at h1
      have h2 := all_range h1 y hy
      have h3 := hseq x hx
      rw [e, beq_self_eq_true, Bool.and_true, decide_eq_true (by omega)] at h2
      cases h2
    rcases Nat.lt_or_gt_of_ne (show i ≠ j by omega) with h1 | h1
    · exact fun e => hd j i hj h1 hb e.symm
    · exact hd i j hi h1 ha
  · unfold bytesF
    have e1 : bytesL (fun c => laOf (foOf p d (laAt ls)) (c + 1)) 5 = bytesL (laAt ls) 5 := by
      exact bytesL_congr 5 hlaof
    rw [e1]
    exact (n3 hseq).symm
end Go.Proofs.Ytegkhkcnoahhdaa
/-
  A fold in memory: its 22 cells as data; what is read of them, what stays where another block is turned.
  There are no conditions beyond those that each lemma names.
-/
namespace Go.Proofs.Ytegkhkcnoahhdaa
open Go.RowKit
set_option maxRecDepth 100000

def laV (l : La) : List Value := [.int .i64 l.seq, .int .i64 l.place, .string l.txt, .int .i64 l.err]
/-- a fold's cells: its place, its document's rows, its clients' lasts -/
def fcs (p : Int) (dv : Value) (g : Nat → La) : List Value := [.int .i64 p, dv] ++ (laV (g 0) ++ (laV (g 1) ++ (laV (g 2) ++ (laV (g 3) ++ laV (g 4)))))
theorem fcs_len (p : Int) (dv : Value) (g : Nat → La) : (fcs p dv g).length = 22 := rfl
theorem fcs_at (p : Int) (dv : Value) (g : Nat → La) (c j : Nat) (hc : c < 5) (hj : j < 4) : (fcs p dv g)[2 + c * 4 + j]? = (laV (g c))[j]? := by
  obtain rfl | rfl | rfl | rfl | rfl : c = 0 ∨ c = 1 ∨ c = 2 ∨ c = 3 ∨ c = 4 := by omega
  all_goals obtain rfl | rfl | rfl | rfl : j = 0 ∨ j = 1 ∨ j = 2 ∨ j = 3 := by omega
  all_goals rfl
theorem fcs_place (p q : Int) (dv : Value) (g : Nat → La) : (fcs p dv g).set 0 (.int .i64 q) = fcs q dv g := rfl
theorem fcs_doc (p : Int) (dv du : Value) (g : Nat → La) : (fcs p dv g).set 1 du = fcs p du g := rfl
theorem fcs_last (p : Int) (dv : Value) (g : Nat → La) (c : Nat) (l : La) (hc : c < 5) : setL (fcs p dv g) (2 + c * 4) (laV l) = fcs p dv (upd g c l) := by
  obtain rfl | rfl | rfl | rfl | rfl : c = 0 ∨ c = 1 ∨ c = 2 ∨ c = 3 ∨ c = 4 := by omega
  all_goals rfl
theorem fcs_one (p : Int) (dv : Value) (g : Nat → La) (h : dv.oneCell' = true) : ∀ v ∈ fcs p dv g, v.oneCell' = true := by
  intro v hv
  simp only [fcs, laV, List.mem_append, List.mem_cons, List.not_mem_nil, or_false] at hv
  rcases hv with (rfl | rfl) | (rfl | rfl | rfl | rfl) | (rfl | rfl | rfl | rfl) | (rfl | rfl | rfl | rfl) | (rfl | rfl | rfl | rfl) | (rfl | rfl | rfl | rfl)
  all_goals first | exact h | rfl
/-- where a text stands in a fold's cells -/
theorem fcs_str (p : Int) (dv : Value) (g : Nat → La) (j : Nat) (s : ByteArray) (hd : ∀ s, dv ≠ .string s) (h : (fcs p dv g)[j]? = some (.string s)) : j % 4 = 0 := by
  by_cases hj : j < 22
  · by_cases h2 : 2 ≤ j
    · obtain ⟨c, r, hc, hr, rfl⟩ : ∃ c r, c < 5 ∧ r < 4 ∧ j = 2 + c * 4 + r := ⟨(j - 2) / 4, (j - 2) % 4, by omega, by omega, by omega⟩
      rw [fcs_at p dv g c r hc hr] at h
      obtain rfl | rfl | rfl | rfl : r = 0 ∨ r = 1 ∨ r = 2 ∨ r = 3 := by omega
      · cases h
      · cases h
      · omega
      · cases h
    · obtain rfl | rfl : j = 0 ∨ j = 1 := by omega
      · cases h
      · injection h with h; exact absurd h (hd s)
  · rw [List.getElem?_eq_none (by rw [fcs_len]; omega)] at h; cases h
/-- block g is a fold of that place, those rows and lasts -/
def Fr (w : World) (g : Nat) (p : Int) (dv : Value) (las : Nat → La) : Prop := Rb w g 64 (fcs p dv las)
theorem Fr.at_ {w : World} {g : Nat} {p : Int} {dv : Value} {las : Nat → La} (h : Fr w g p dv las) (c j : Nat) (v : Value) (hc : c < 5) (hv : (laV (las c))[j]? = some v) : w.cell? ⟨g, 2 + c * 4 + j, none⟩ = some v := by
  refine Rb.cell h ?_
  have hj : j < 4 := (List.getElem?_eq_some_iff.1 hv).1
  rw [fcs_at _ _ _ _ _ hc hj]; exact hv
theorem Fr.rng {w : World} {g : Nat} {p : Int} {dv : Value} {las : Nat → La} (h : Fr w g p dv las) (c : Nat) (hc : c < 5) : w.rangeAt g (2 + c * 4) (laV (las c)) := fun j v hj => h.at_ c j v hc hj
theorem Fr.lt {w : World} {g : Nat} {p : Int} {dv : Value} {las : Nat → La} (h : Fr w g p dv las) : g < w.heap.size := Rb.lt h
theorem Fr.below {w w' : World} {g : Nat} {p : Int} {dv : Value} {las : Nat → La} (h : Fr w g p dv las) (hb : Below w.heap.size w w') : Fr w' g p dv las := Rb.below h hb
/-- the lasts' cells, all of them -/
theorem Fr.all {w : World} {g : Nat} {p : Int} {dv : Value} {las : Nat → La} (h : Fr w g p dv las) : w.rangeAt g 2 (laV (las 0) ++ (laV (las 1) ++ (laV (las 2) ++ (laV (las 3) ++ laV (las 4))))) := fun j v hj => by
  have h2 : (fcs p dv las)[2 + j]? = some v := by
    unfold fcs
    rw [List.getElem?_append_right (by simp)]
    simpa using hj
  have := Rb.range h (2 + j) v h2
  rwa [Nat.zero_add] at this
theorem row_ne_fold : (64 : TypeId) ≠ 80 := by decide
theorem own_ne_fr {w : World} {B e s n g : Nat} {v dv : Value} {xs : List Value} {p : Int} {las : Nat → La} (ho : w.ownsRow B e s v n xs) (h : Fr w g p dv las) (hne : e ≠ 64) : v.ownBlock ≠ some g := fun e2 => by
  rcases ho.2 with ⟨rfl, _⟩ | ⟨g', c, cur, rfl, _, hg, _⟩
  · cases e2
  · injection e2 with e2
    simp only at e2
    subst e2
    unfold Fr Rb at h
    rw [hg] at h
    injection h with h
    injection h with h2 h3 h4
    exact hne h3
/-- block g is the fold f, as it should be; it and its rows lie from block B on -/
def Fd (w : World) (B g : Nat) (f : Fo) : Prop := FoG f ∧ B ≤ g ∧ ∃ dv, Fr w g f.place dv (fun c => laOf f (c + 1)) ∧ OwnR B dv f.d w
theorem Fd.lt {w : World} {B g : Nat} {f : Fo} (h : Fd w B g f) : g < w.heap.size := by
  obtain ⟨_, _, dv, h, _⟩ := h; exact h.lt
theorem Fd.lo {w : World} {B g : Nat} {f : Fo} (h : Fd w B g f) : B ≤ g := h.2.1
theorem Fd.good {w : World} {B g : Nat} {f : Fo} (h : Fd w B g f) : FoG f := h.1
theorem Fd.below {w w' : World} {B g : Nat} {f : Fo} (h : Fd w B g f) (hb : Below w.heap.size w w') : Fd w' B g f := by
  obtain ⟨hg, hB, dv, hr, ho⟩ := h
  exact ⟨hg, hB, dv, hr.below hb, ownsRow_below ho hb⟩
/-- another fold that is turned leaves this one -/
theorem Fd.grown {w w' : World} {B C g g2 : Nat} {f f2 : Fo} (h : Fd w B g f) (h2 : Fd w C g2 f2) (hb : w.grownBy w' (some g2)) (hne : g ≠ g2) : Fd w' B g f := by
  obtain ⟨hg, hB, dv, hr, ho⟩ := h
  obtain ⟨_, _, dv2, hr2, _⟩ := h2
  exact ⟨hg, hB, dv, (hb.block g hr.lt (fun e => hne (by injection e))).trans hr, World.ownsRow.kept ho hb (.inr (own_ne_fr ho hr2 row_ne_fold.symm))⟩
/-- what a turn leaves: all that lies below the folds -/
theorem Fd.frame {w0 w w' : World} {B g : Nat} {f : Fo} (h : Fd w B g f) (hb : w.grownBy w' (some g)) (h0 : Below B w0 w) (hB : B ≤ w.heap.size) : Below B w0 w' :=
  Below.grown h0 hb hB (fun k hk => by injection hk with hk; rw [← hk]; exact h.lo)
/-- rows of one's own stay where a fold is turned -/
theorem own_turn {B e s n g C : Nat} {v : Value} {xs : List Value} {w w' : World} {f : Fo} (h : w.ownsRow B e s v n xs) (hd : Fd w C g f) (hb : w.grownBy w' (some g)) (hne : e ≠ 64) : w'.ownsRow B e s v n xs := by
  obtain ⟨_, _, dv, hr, _⟩ := hd
  exact World.ownsRow.kept h hb (.inr (own_ne_fr h hr hne))
/-- boxes of another type stay where a fold is turned -/
theorem rb_turn {w w' : World} {B g G : Nat} {t : TypeId} {cs : List Value} {f : Fo} (h : Rb w G t cs) (hd : Fd w B g f) (hb : w.grownBy w' (some g)) (hne : G ≠ g) : Rb w' G t cs :=
  (hb.block G h.lt (fun e => hne (by injection e))).trans h
theorem bx_turn {w w' : World} {B g G : Nat} {t : TypeId} {v : Value} {f : Fo} (h : Bx1 w G t v) (hd : Fd w B g f) (hb : w.grownBy w' (some g)) (hne : G ≠ g) : Bx1 w' G t v :=
  (hb.block G h.lt (fun e => hne (by injection e))).trans h
/-- pairs stay where a fold is turned -/
theorem prs_turn {w w' : World} {B C g : Nat} {v : Value} {l : List Par} {f : Fo} (h : Prs w B v l) (hd : Fd w C g f) (hb : w.grownBy w' (some g)) : Prs w' B v l := by
  obtain ⟨A, c, hv, hc, hcell⟩ := h
  obtain ⟨_, _, dv, hr, ho⟩ := hd
  obtain ⟨A3, m3, c3, rfl⟩ := own_slice3 ho
  refine ⟨A, c, hv, hc, fun hn => ?_⟩
  obtain ⟨g', o, hA, hg, hcs⟩ := hcell hn
  have hne : g' ≠ g := fun e => by
    subst e
    have h0 := hcs 0 hn 0 (.string l[0].k) rfl
    have h1 := hcs 0 hn 3 (.string l[0].v.s) rfl
    rw [cell_of_row w g' _ _ _ (0, 0) hr, List.getElem?_toArray] at h0 h1
    have e0 := fcs_str _ _ _ _ _ (fun s e => by cases e) h0
    have e1 := fcs_str _ _ _ _ _ (fun s e => by cases e) h1
    omega
  refine ⟨g', o, hA, hg, fun k hk j z hj => ?_⟩
  have hz := hcs k hk j z hj
  exact (hb.cell_far _ (cell_in6 hz) (fun e => hne (by injection e))).trans hz
/-- operations stay where a fold is turned -/
theorem ops_turn {w w' : World} {B C g : Nat} {v : Value} {l : List Opn} {f : Fo} (h : Ops w B v l) (hd : Fd w C g f) (hb : w.grownBy w' (some g)) : Ops w' B v l := by
  obtain ⟨A, c, hv, hc, hcell⟩ := h
  obtain ⟨_, _, dv, hr, ho⟩ := hd
  obtain ⟨A3, m3, c3, rfl⟩ := own_slice3 ho
  refine ⟨A, c, hv, hc, fun hn => ?_⟩
  obtain ⟨g', o, hA, hg, hcs⟩ := hcell hn
  have hne : g' ≠ g := fun e => by
    subst e
    have h0 := hcs 0 hn 1 (.string l[0].key) rfl
    have h1 := hcs 0 hn 4 (.string l[0].val.s) rfl
    rw [cell_of_row w g' _ _ _ (0, 0) hr, List.getElem?_toArray] at h0 h1
    have e0 := fcs_str _ _ _ _ _ (fun s e => by cases e) h0
    have e1 := fcs_str _ _ _ _ _ (fun s e => by cases e) h1
    omega
  refine ⟨g', o, hA, hg, fun k hk j z hj => ?_⟩
  have hz := hcs k hk j z hj
  exact (hb.cell_far _ (cell_in6 hz) (fun e => hne (by injection e))).trans hz
/-- a document of its own stays where a fold is turned -/
theorem dc_turn {w w' : World} {B C g g2 : Nat} {l : List Par} {f : Fo} (h : Dc w B g l) (hd : Fd w C g2 f) (hb : w.grownBy w' (some g2)) (hne : g ≠ g2) : Dc w' B g l := by
  obtain ⟨hg, v, h⟩ := h
  obtain ⟨_, _, dv, hr, _⟩ := hd
  exact ⟨hg, v, h.lo, (hb.block g h.lt (fun e => hne (by injection e))).trans h.here, World.ownsRow.kept h.own hb (.inr (own_ne_fr h.own hr row_ne_fold.symm))⟩
/-- rows of one's own stay where a block of another type is stored into -/
theorem rb_owns {B e s n G : Nat} {v : Value} {t : TypeId} {xs : List Value} (hne : t ≠ e) : ∀ (vs : List Value) (o : Nat) (w : World) (cs : List Value), w.ownsRow B e s v n xs → Rb w G t cs → (w.setCells G o vs).ownsRow B e s v n xs
  | [], _, _, _, h, _ => h
  | u :: r, o, w, cs, h, hb => rb_owns hne r (o + 1) _ _ (rb_own h hb hne) (hb.set o u)
theorem sets_grown {g : Nat} : ∀ (vs : List Value) (o : Nat) (w : World), w.grownBy (w.setCells g o vs) (some g)
  | [], _, w => ⟨rfl, rfl, rfl, Nat.le_refl _, fun _ _ _ => rfl⟩
  | u :: r, o, w => grownBy_trans (setCell_grown w ⟨g, o, none⟩ u) (sets_grown r (o + 1) _)
/-- a fold stays where a block of another type is stored into -/
theorem fd_row {B g G : Nat} {f : Fo} {t : TypeId} : ∀ {w : World} {cs : List Value}, Fd w B g f → Rb w G t cs → t ≠ 80 → g ≠ G → ∀ (vs : List Value) (o : Nat), Fd (w.setCells G o vs) B g f
  | _, _, ⟨hg, hB, dv, hr, ho⟩, hb, ht, hne, vs, o => ⟨hg, hB, dv, Rb.others hne vs o _ hr, rb_owns ht vs o _ _ ho hb⟩
/-- a block new since w may be stored into -/
theorem sets_from {a : World} {g G : Nat} : ∀ {w : World}, a.grownBy w (some g) → ∀ (vs : List Value) (o : Nat), a.heap.size ≤ G → a.grownBy (w.setCells G o vs) (some g)
  | _, h, [], _, _ => h
  | w, h, u :: r, o, hG => sets_from (w := w.setCell ⟨G, o, none⟩ u) ⟨h.os, h.tape, h.output, by simp; exact h.size, fun k hk hne => (Below.heap_setCell w _ u k (fun e => by simp only at e; omega)).trans (h.block k hk hne)⟩ r (o + 1) hG
/-- operations stay where a row without texts is stored into -/
theorem ops_norow {w : World} {B G : Nat} {t : TypeId} {cs : List Value} {v : Value} {l : List Opn} (hn : NoStr cs) : ∀ (vs : List Value) (o : Nat), Ops w B v l → Rb w G t cs → Ops (w.setCells G o vs) B v l := by
  intro vs o h hr
  obtain ⟨A, c, hv, hc, hcell⟩ := h
  refine ⟨A, c, hv, hc, fun h0 => ?_⟩
  obtain ⟨g', o', hA, hg, hcs⟩ := hcell h0
  have hne : g' ≠ G := fun e => by
    subst e
    have h1 := hcs 0 h0 1 (.string l[0].key) rfl
    rw [cell_of_row w g' _ _ _ (0, 0) hr, List.getElem?_toArray] at h1
    exact hn _ _ h1
  refine ⟨g', o', hA, hg, fun k hk i z hz => ?_⟩
  exact (World.cell?_of_block ((sets_grown vs o w).block g' (cell_in6 (hcs k hk i z hz)) (fun e => hne (by injection e)))).trans (hcs k hk i z hz)
/-- operations stay where a new row of zeros is stored into -/
theorem ops_zrow {w : World} {B G : Nat} {vs : List Value} {v : Value} {l : List Opn} (h : Ops w B v l) (hr : Rb w G 32 [.int .i64 0, .int .i64 0, .int .i64 0, .slice none 0 0, .int .i64 0]) : Ops (w.setCells G 0 vs) (w.setCells G 0 vs).heap.size v l := by
  have h2 := ops_norow (noStr_of (by intro v hv s e; subst e; simp at hv)) vs 0 h hr
  obtain ⟨A, c, hv, hc, hcell⟩ := h2
  refine ⟨A, c, hv, hc, fun h0 => ?_⟩
  obtain ⟨g', o', hA, hg, hcs⟩ := hcell h0
  exact ⟨g', o', hA, cell_in6 (hcs 0 h0 0 _ rfl), hcs⟩
end Go.Proofs.Ytegkhkcnoahhdaa
