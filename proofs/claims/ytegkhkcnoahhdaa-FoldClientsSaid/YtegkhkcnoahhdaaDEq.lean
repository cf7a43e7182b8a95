/-
  A document's Encode writes it as the plain function says, in new memory.
  The document is a good one.
-/
import Derived.Test.YtegkhkcnoahhdaaDSet
import Derived.Deep.MidRow
import Derived.Test.YtegkhkcnoahhdaaDApply
set_option linter.unusedSimpArgs false
set_option linter.unusedVariables false
namespace Go.Proofs.Ytegkhkcnoahhdaa
open Go.RowKit
set_option maxRecDepth 100000

theorem d_byt_nil (w : World) (B : Nat) : Byt w B (.slice none 0 0) [] := ⟨none, 0, rfl, Nat.le_refl _, fun h => absurd h (by decide)⟩
theorem flatP_len {l : List Par} (h : Gd l) (k : Nat) : ((l.take k).flatMap bytesP).length ≤ k * 1000 := by
  have h1 : ∀ p ∈ l, (bytesP p).length ≤ 1000 := fun p hp => by
    have h2 := h.key p hp
    obtain ⟨_, hm, _, _⟩ := h.all p hp
    have h3 := putT_len p.k
    have h4 := putR_short hm
    unfold bytesP
    rw [List.length_append]; omega
  clear h
  induction l generalizing k with
  | nil => simp
  | cons p t ih =>
    cases k with
    | zero => simp
    | succ k =>
      have h2 := ih k (fun q hq => h1 q (by simp [hq]))
      have h3 := h1 p (by simp)
      rw [List.take_succ_cons, List.flatMap_cons, List.length_append]; omega
set_option maxHeartbeats 1000000 in
theorem dencode_any (B g : Nat) (l : List Par) (w : World) (h : DocR w B g l) (hB : B ≤ w.heap.size) (hg : Gd l) : Calls Try.prog 32 #[.pointer (some ⟨g, 0, none⟩)] w (Made (bytesD l) w) := by
  obtain ⟨hgB, v, hv, A, c, rfl, hc, hcell⟩ := h
  have HC := Lib.hid hcell; clear hcell
  have hgw : g < w.heap.size := Nat.lt_of_lt_of_le hgB hB
  have hlen := hg.len
  have HG := Lib.hid hg; clear hg
  go_enter Try.func32, Try.ntmps32
  go_wp2_with fail
  refine (nput_to (.slice none 0 0) 0 [] (Nu.put (l.length : Int)) _ _ (d_byt_nil _ _) (by simp) (Nat.zero_le _) ⟨by omega, by omega⟩ rfl).mono ?_
  rintro e w1 ⟨v1, rfl, hown1, hb1⟩
  replace hv := (hb1.cell (p := ⟨g, 0, none⟩) hgw).trans hv
  have hpl := Nu.put_len (l.length : Int)
  obtain ⟨n, hn⟩ : ∃ n, l.length = n := ⟨_, rfl⟩
  have hBn : ∀ k, ((l.take k).flatMap bytesP).length ≤ k * 1000 := fun k => flatP_len HG.out k
  have HL := Lib.hid hBn; clear hBn
  have hbd : bytesD l = Nu.put (n : Int) ++ (l.take n).flatMap bytesP := by unfold bytesD; rw [List.take_of_length_le (by omega), hn]
  have HBD := Lib.hid hbd; clear hbd
  rw [hn] at hv hc hown1 hlen hpl ⊢
  have HN := Lib.hid hn; clear hn
  go_wp2
  go_loopw [3, 19] (fun v i wr => ∃ k : Nat, i = .int .i64 k ∧ k ≤ n ∧ OwnB w.heap.size v (Nu.put (n : Int) ++ (l.take k).flatMap bytesP) wr ∧ Below w.heap.size w wr) (fun _ i _ => n - (intOf i).toNat)
  case atStart => exact ⟨0, rfl, by omega, by simpa using hown1, hb1⟩
  case round =>
    obtain ⟨k, rfl, hk, hown, hbw⟩ := hrel
    clear hown1 hb1 hv
    obtain ⟨m, hm⟩ : ∃ m, Nu.put (n : Int) ++ (l.take k).flatMap bytesP = m := ⟨_, rfl⟩
    have hml : m.length ≤ 20 + k * 1000 := by rw [← hm, List.length_append]; have := HL.out k; omega
    rw [hm] at hown
    by_cases hkl : k < n
    · have hkl2 : k < l.length := by have := HN.out; omega
      obtain ⟨gr, o, rfl, hgr, hcs⟩ := HC.out (by have := HN.out; omega)
      obtain ⟨x, hx⟩ : ∃ x, l[k] = x := ⟨_, rfl⟩
      have hr := range_below (hcs k hkl2) hbw (Nat.lt_of_lt_of_le hgr hB)
      have hxin : x ∈ l := by rw [← hx]; exact List.getElem_mem ..
      have hsp : Nu.put (n : Int) ++ (l.take (k + 1)).flatMap bytesP = m ++ Nu.putT x.k.data.toList ++ putR x.v := by
        rw [← hm, List.take_add_one, List.getElem?_eq_getElem hkl2, hx]
        simp [bytesP]
      rw [hx] at hr
      have hks := HG.out.key x hxin
      obtain ⟨_, hmay, _, hok⟩ := HG.out.all x hxin
      obtain ⟨xy, ⟨vk, vn, vs⟩⟩ := x
      simp only at hks hmay hok hsp
      obtain ⟨hrw, hlw⟩ := va_back hmay
      obtain ⟨va, hva⟩ : ∃ va, vaOf ⟨vk, vn, vs⟩ = va := ⟨_, rfl⟩
      rw [hva] at hrw hlw
      obtain ⟨xv, hxv⟩ : ∃ xv, va.ins = xv := ⟨_, rfl⟩
      unfold Par.rc at hr
      simp only at hr
      rw [hva, hxv] at hr
      have hst := fun a m W => ins_store va xv hxv a m W
      have n1 := putT_len xy
      have n2 := putR_short hmay
      have HSP := Lib.hid hsp
      have HOK := Lib.hid hok
      have HMAY := Lib.hid hmay
      have HRAW := Lib.hid (fun W => vraw_is (.agg #[xv]) va vk vn vs W (by rw [hxv]) hrw (Nat.le_trans hlw hok.2.2))
      clear hsp hok hmay hx hcs hm hva hxv hrw hlw
      go_wp2_with (refine wpList_load_mid rfl 80 _ rfl gr (o + k * 2) rfl _ _ hr Try.underlying80 rfl Try.infoRow ?_)
      refine (nputT_to (.slice none 0 0) 0 [] (Nu.putT xy.data.toList) xy _ (d_byt_nil _ _) (by simp) (by omega) (Nat.zero_le _) rfl).mono ?_
      rintro e w2 ⟨v2, rfl, hown2, hb2⟩
      have hz2 := hb2.size
      simp at hz2
      have b0 : w2.cell? ⟨wr.heap.size, 0, none⟩ = some (.string xy) := (hb2.cell (p := ⟨wr.heap.size, 0, none⟩) (by simp)).trans (by go_simp)
      have b1 : w2.cell? ⟨wr.heap.size, 1, none⟩ = some xv := (hb2.cell (p := ⟨wr.heap.size, 1, none⟩) (by simp)).trans (by go_simp)
      have hbw2 : Below wr.heap.size wr w2 := (below_one wr _).trans (hb2.mono (B' := wr.heap.size) (by simp))
      have HB3 := Lib.hid hown
      have hown3 := hown.below hbw2
      have hby2 := Byt.of_own hown2
      clear hr hown hown2 hb2
      have hne3 : u3.ownBlock ≠ some wr.heap.size := fun e => by have := (hown3.lt _ e).2; have := (HB3.out.lt _ e).2; omega
      go_wp2_with (refine wpList_append_byt_at rfl _ _ rfl w.heap.size _ _ _ _ _ rfl hown3 rfl hby2 ?qa ?qb ?_)
      case qa => have : (Nu.putT xy.data.toList).length ≤ 1000 := by omega
                 omega
      case qb => have := hbw2.size; have := hbw.size; omega
      intro v4 w4 hown4 hb4 hgr4
      replace b1 := hgr4.cell b1 hne3
      have hz4 := hb4.size
      clear hown3 hby2 b0 hne3 hgr4
      have hbw4 : Below w.heap.size w w4 := (hbw.trans (hbw2.mono hbw.size)).trans hb4
      go_wp2_with fail
      refine (HRAW.out _).mono ?_
      rintro e w5 ⟨rfl, hb5⟩
      have hbw5 : Below w.heap.size w w5 := hbw4.trans (hb5.mono hbw4.size)
      have hown5 := hown4.below hb5
      have hz5 := hb5.size
      clear hown4 hbw4 hb5
      go_wp2_with fail
      refine (vput_on (.slice none 0 0) _ ⟨vk, vn, vs⟩ 0 [] (putR ⟨vk, vn, vs⟩) _ rfl (d_byt_nil _ _) (by simp) (Nat.zero_le _) HOK.out HMAY.out rfl).mono ?_
      rintro e w6 ⟨v6, rfl, hown6, hb6⟩
      have hbw6 : Below w.heap.size w w6 := hbw5.trans (hb6.mono hbw5.size)
      have hown7 := hown5.below hb6
      have hby6 := Byt.of_own hown6
      clear hown5 hbw5 hb6 hown6
      go_wp2_with (refine wpList_append_byt rfl _ _ rfl w.heap.size _ _ _ _ _ rfl hown7 rfl hby6 ?qa ?qb ?_)
      case qa => have : (Nu.putT xy.data.toList).length ≤ 1000 := by omega
                 rw [List.length_append]; omega
      case qb => exact hbw6.size
      intro v8 w8 hown8 hb8
      have HO8 := Lib.hid hown8
      have hbw8 := hbw6.trans hb8
      clear hown8 hby6 hown7 hb8
      go_wp2
      go_roundw
      case rel => exact ⟨k + 1, by go_num, by omega, by rw [HSP.out, List.append_assoc]; exact HO8.out, hbw8⟩
      case measure => simp [intOf]; omega
    · have hkn : k = n := by omega
      subst hkn
      have HOWN := Lib.hid hown; clear hown
      have HM := Lib.hid hm; clear hm
      go_wp2
      go_ret
      exact ⟨u3, rfl, by rw [HBD.out, HM.out]; exact HOWN.out, hbw⟩
end Go.Proofs.Ytegkhkcnoahhdaa
/-
  A document's Keys: its keys in order, in new memory.
  The document is a good one.
-/
namespace Go.Proofs.Ytegkhkcnoahhdaa
open Go.RowKit
set_option maxRecDepth 100000

/-- the slice value v is a row of one's own of the texts ks, among the blocks from B on -/
def OwnS (B : Nat) (v : Value) (ks : List ByteArray) (w : World) : Prop := w.ownsRow B 9 1 v ks.length (ks.map .string)
theorem Try.infoStr3 : (Try.prog.info? 9).map (fun i => (i.zero, i.size, i.bytes)) = some (some (.string ⟨#[]⟩), 1, 16) := by kernel_rfl
def keyRow (l : List Par) (n k : Nat) : List Value := ((l.take k).map fun p => .string p.k) ++ List.replicate (n - k) (.string ⟨#[]⟩)
theorem keyRow_0 (l : List Par) (n : Nat) : keyRow l n 0 = List.replicate n (.string ⟨#[]⟩) := by simp [keyRow]
theorem keyRow_all (l : List Par) (n : Nat) (h : l.length = n) : keyRow l n n = (l.map Par.k).map .string := by
  unfold keyRow; rw [List.take_of_length_le (by omega), Nat.sub_self]; simp
theorem keyRow_set (l : List Par) (n k : Nat) (h : l.length = n) (hk : k < n) : (keyRow l n k).set k (.string (l[k]'(by omega)).k) = keyRow l n (k + 1) := by
  unfold keyRow
  have hl : ((l.take k).map fun p => Value.string p.k).length = k := by simp; omega
  rw [List.set_append_right _ _ (by omega), hl, Nat.sub_self, show n - k = (n - (k + 1)) + 1 by omega, List.replicate_succ, List.set_cons_zero, List.take_add_one, List.getElem?_eq_getElem (by omega)]
  simp only [Option.toList_some, List.map_append, List.map_cons, List.map_nil, List.append_assoc, List.cons_append, List.nil_append]
set_option maxHeartbeats 1000000 in
theorem dkeys_any (B g : Nat) (l : List Par) (w : World) (h : DocR w B g l) (hB : B ≤ w.heap.size) (hg : Gd l) : Calls Try.prog 19 #[.pointer (some ⟨g, 0, none⟩)] w fun e w' => ∃ gk, e = .returned (.slice (some ⟨gk, 0, none⟩) l.length l.length) ∧ OwnS w.heap.size (.slice (some ⟨gk, 0, none⟩) l.length l.length) (l.map Par.k) w' ∧ Below w.heap.size w w' := by
  obtain ⟨hgB, v, hv, A, c, rfl, hc, hcell⟩ := h
  have HC := Lib.hid hcell; clear hcell
  have hgw : g < w.heap.size := Nat.lt_of_lt_of_le hgB hB
  have hlen := hg.len
  have HG := Lib.hid hg; clear hg
  obtain ⟨n, hn⟩ : ∃ n, l.length = n := ⟨_, rfl⟩
  rw [hn] at hv hc hlen ⊢
  have HN := Lib.hid hn; clear hn
  go_enter Try.func19, Try.ntmps19
  obtain ⟨i0, hi, hz⟩ := Option.map_eq_some_iff.1 Try.infoStr3
  simp only [Prod.mk.injEq] at hz
  obtain ⟨hz0, hz1, hz2⟩ := hz
  obtain ⟨w1, hmk, hown, hgr⟩ := run_make_full (P := Try.prog) w w.heap.size 54 9 i0 (.string ⟨#[]⟩) 1 Try.underlying54 hi hz0 hz1 .i64 .i64 n (by rw [hz2]; omega) (by simp only [maxLen]; omega) (Nat.le_refl _)
  have hb1 : Below w.heap.size w w1 := (Below.refl _ _).grown hgr (Nat.le_refl _) (fun k hk => by cases hk)
  have hv1 : w1.cell? ⟨g, 0, none⟩ = some (.slice A n c) := (hb1.cell (p := ⟨g, 0, none⟩) hgw).trans hv
  have hrep : (madeCells (Value.string ⟨#[]⟩).cells (n * 1)).toList = keyRow l n 0 := by
    rw [keyRow_0, show (Value.string ⟨#[]⟩).cells = #[.string ⟨#[]⟩] from rfl, Nat.mul_one, toList_madeCells_one]
  rw [hrep] at hown
  have HO := Lib.hid hown
  clear hown hgr hrep
  go_wp2
  go_loopw [19] (fun i wr => ∃ k : Nat, i = .int .i64 k ∧ k ≤ n ∧ wr.ownsRow w.heap.size 9 1 (.slice (some ⟨w.heap.size, 0, none⟩) n n) n (keyRow l n k) ∧ Below w.heap.size w wr) (fun i _ => n - (intOf i).toNat)
  case atStart => exact ⟨0, rfl, by omega, HO.out, hb1⟩
  case round =>
    obtain ⟨k, rfl, hk, hown, hbw⟩ := hrel
    clear hb1 hv1 hmk
    by_cases hkl : k < n
    · have hkl2 : k < l.length := by have := HN.out; omega
      obtain ⟨gr, o, rfl, hgr, hcs⟩ := HC.out (by have := HN.out; omega)
      obtain ⟨x, hx⟩ : ∃ x, l[k] = x := ⟨_, rfl⟩
      have hr := range_below (hcs k hkl2) hbw (Nat.lt_of_lt_of_le hgr hB)
      have hks := HG.out.key l[k] (List.getElem_mem ..)
      have hset := keyRow_set l n k HN.out hkl
      rw [hx] at hr hks hset
      obtain ⟨xy, xr⟩ := x
      obtain ⟨va, hva⟩ : ∃ va, vaOf xr = va := ⟨_, rfl⟩
      obtain ⟨xv, hxv⟩ : ∃ xv, va.ins = xv := ⟨_, rfl⟩
      unfold Par.rc at hr
      simp only at hr hks hset
      rw [hva, hxv] at hr
      have hst := fun a m W => ins_store va xv hxv a m W
      have HSET := Lib.hid hset
      have HOW := Lib.hid hown
      have hgw2 := (World.ownsRow.lt hown w.heap.size rfl).2
      clear hset hcs hx hown
      go_wp2_with (refine wpList_load_mid rfl 80 _ rfl gr (o + k * 2) rfl _ _ hr Try.underlying80 rfl Try.infoRow ?_)
      refine (clone_any xy _ (by omega)).mono ?_
      rintro e w2 ⟨rfl, hb2⟩
      have hz2 := hb2.size
      simp at hz2
      have hbw2 : Below wr.heap.size wr w2 := (below_one wr _).trans (hb2.mono (B' := wr.heap.size) (by simp))
      have hown2 := ownsRow_below HOW.out hbw2
      have c1 := hown2.cellAt k (by omega)
      have f1 := hown2.frozenAt k
      obtain ⟨u, hu⟩ : ∃ u, (keyRow l n k)[k]? = some u := ⟨_, List.getElem?_eq_getElem (by rw [hown2.1]; omega)⟩
      rw [hu] at c1
      have hkn : (k : Int) < (n : Int) := by omega
      have hsto := (hown2.stored k (.string xy)).1
      rw [HSET.out] at hsto
      have HO2 := Lib.hid hsto
      have hbs : Below w.heap.size w (w2.setCell ⟨w.heap.size, k, none⟩ (.string xy)) := Below.setCell (p := ⟨w.heap.size, k, none⟩) (hbw.trans (hbw2.mono hbw.size)) (Nat.le_refl _) _
      have HBS := Lib.hid hbs
      clear hr hb2 hown2 hu hbs hsto
      go_wp2
      go_roundw
      case rel => exact ⟨k + 1, by go_num, by omega, HO2.out, HBS.out⟩
      case measure => simp [intOf]; omega
    · have hkn : k = n := by omega
      subst hkn
      have HOW := Lib.hid hown
      clear hown
      go_wp2
      go_ret
      refine ⟨_, rfl, ?_, hbw⟩
      have h9 := HOW.out
      rw [keyRow_all l k HN.out] at h9
      unfold OwnS
      rw [List.length_map, HN.out]
      exact h9
end Go.Proofs.Ytegkhkcnoahhdaa
/-
  Two documents' Eq: whether they have the same keys and values.
  The documents are good ones.
-/
namespace Go.Proofs.Ytegkhkcnoahhdaa
open Go.RowKit
set_option maxRecDepth 100000

def eqP (a b : Par) : Bool := a.k.data.toList == b.k.data.toList && eqR a.v b.v
def eqD (l m : List Par) : Bool := decide (l.length = m.length) && (l.zip m).all fun p => eqP p.1 p.2
set_option maxHeartbeats 1000000 in
theorem eqclosure_any (p q : Par) (xp xq : Value) (b : Bool) (w : World) (hp : (vaOf p.v).ins = xp) (hq : (vaOf q.v).ins = xq) (hmp : mayR p.v = true) (hmq : mayR q.v = true) (hb : eqP p q = b) :
    Calls Try.prog 46 #[.agg #[.string p.k, xp], .agg #[.string q.k, xq]] w (Bl b w) := by
  obtain ⟨pk, pr⟩ := p
  obtain ⟨qk, qr⟩ := q
  simp only at hp hq hmp hmq
  have heq := eqV_of hmp hmq
  obtain ⟨z, hz⟩ : ∃ z, eqR pr qr = z := ⟨_, rfl⟩
  rw [hz] at heq
  obtain ⟨vp, hvp⟩ : ∃ vp, vaOf pr = vp := ⟨_, rfl⟩
  obtain ⟨vq, hvq⟩ : ∃ vq, vaOf qr = vq := ⟨_, rfl⟩
  rw [hvp] at hp heq
  rw [hvq] at hq heq
  have hs1 := fun a m W => ins_store vp xp hp a m W
  have hs2 := fun a m W => ins_store vq xq hq a m W
  have HE := Lib.hid (fun W => veq_is (.agg #[xp]) (.agg #[xq]) vp vq z W (by rw [hp]) (by rw [hq]) heq)
  unfold eqP at hb
  simp only at hb
  rw [hz] at hb
  have hb0 := Below.refl w.heap.size w
  cases hk : (pk.data.toList == qk.data.toList) with
  | false =>
    rw [hk] at hb
    have e1 : (pk.toList == qk.toList) = false := by rw [ByteArray.toList_eq, ByteArray.toList_eq]; exact hk
    subst hb
    go_enter Try.func46, Try.ntmps46
    go_wp2
    go_ret
    exact ⟨rfl, by first | exact hb0 | exact below_one _ _ | exact below_two _ _ _⟩
  | true =>
    rw [hk] at hb
    have e1 : (pk.toList == qk.toList) = true := by rw [ByteArray.toList_eq, ByteArray.toList_eq]; exact hk
    have hzb : z = b := by simpa using hb
    subst hzb
    go_enter Try.func46, Try.ntmps46
    go_wp2_with fail
    refine (HE.out _).mono ?_
    rintro e k1 ⟨rfl, h⟩
    go_wp2
    go_ret
    exact ⟨rfl, (below_two w _ _).trans (h.mono (by simp; omega))⟩
theorem eqD_len {l m : List Par} (h : l.length ≠ m.length) : eqD l m = false := by unfold eqD; rw [decide_eq_false h]; rfl
theorem eqD_eqlen {l m : List Par} (h : l.length = m.length) : eqD l m = (l.zip m).all fun p => eqP p.1 p.2 := by unfold eqD; rw [decide_eq_true h]; rfl
theorem eqD_at {l m : List Par} {k : Nat} (h : l.length = m.length) (hk : k < l.length) : ((l.drop k).zip (m.drop k)).all (fun p => eqP p.1 p.2) = (eqP l[k] (m[k]'(by omega)) && ((l.drop (k + 1)).zip (m.drop (k + 1))).all fun p => eqP p.1 p.2) := by
  rw [List.drop_eq_getElem_cons hk, List.drop_eq_getElem_cons (show k < m.length by omega), List.zip_cons_cons, List.all_cons]
set_option maxHeartbeats 1000000 in
theorem dequalFunc_any (B : Nat) (v v' : Value) (l m : List Par) (w : World) (h : Rws w B v l) (h' : Rws w B v' m) (hB : B ≤ w.heap.size) (hg : Gd l) (hg' : Gd m) :
    Calls Try.prog 45 #[v, v', .func (.func 46) #[] #[]] w (Bl (eqD l m) w) := by
  obtain ⟨A, c, rfl, hc, hcell⟩ := h
  obtain ⟨A', c', rfl, hc', hcell'⟩ := h'
  by_cases hlm : l.length = m.length
  · obtain ⟨n, hn⟩ : ∃ n, l.length = n := ⟨_, rfl⟩
    have hn50 : n ≤ 50 := by rw [← hn]; exact hg.len
    have HLM := Lib.hid hlm
    have HC := Lib.hid hcell
    have HC' := Lib.hid hcell'
    rw [← hlm] at hc' ⊢
    rw [hn] at hc hc' ⊢
    have HN := Lib.hid hn
    have HG := Lib.hid hg
    have HG' := Lib.hid hg'
    clear hn hlm hcell hcell' hg hg'
    go_enter Try.func45, Try.ntmps45
    go_wp2_with fail
    go_loopw [17] (fun i wr => ∃ k : Nat, i = .int .i64 k ∧ k ≤ n ∧ eqD l m = ((l.drop k).zip (m.drop k)).all (fun p => eqP p.1 p.2) ∧ Below w.heap.size w wr) (fun i _ => n - (intOf i).toNat)
    case atStart => exact ⟨0, rfl, by omega, by rw [List.drop_zero, List.drop_zero]; exact eqD_eqlen (HLM.out), Below.refl _ _⟩
    case round =>
      obtain ⟨k, rfl, hk, he, hbw⟩ := hrel
      by_cases hkl : k < n
      · have hkl2 : k < l.length := by have := HN.out; omega
        have hkl3 : k < m.length := by have := HN.out; have := HLM.out; omega
        obtain ⟨gr, o, rfl, hgr, hcs⟩ := HC.out (by omega)
        obtain ⟨gr', o', rfl, hgr', hcs'⟩ := HC'.out (by omega)
        obtain ⟨x, hx⟩ : ∃ x, l[k] = x := ⟨_, rfl⟩
        obtain ⟨y, hy⟩ : ∃ y, m[k] = y := ⟨_, rfl⟩
        have hr := range_below (hcs k hkl2) hbw (Nat.lt_of_lt_of_le hgr hB)
        have hr' := range_below (hcs' k hkl3) hbw (Nat.lt_of_lt_of_le hgr' hB)
        have hmx := (HG.out.all l[k] (List.getElem_mem ..)).2.1
        have hmy := (HG'.out.all m[k] (List.getElem_mem ..)).2.1
        rw [eqD_at HLM.out hkl2, hx, hy] at he
        rw [hx] at hr hmx
        rw [hy] at hr' hmy
        obtain ⟨b, hb⟩ : ∃ b, eqP x y = b := ⟨_, rfl⟩
        rw [hb] at he
        obtain ⟨xk, xr⟩ := x
        obtain ⟨yk, yr⟩ := y
        obtain ⟨xv, hxv⟩ : ∃ xv, (vaOf xr).ins = xv := ⟨_, rfl⟩
        obtain ⟨yv, hyv⟩ : ∃ yv, (vaOf yr).ins = yv := ⟨_, rfl⟩
        unfold Par.rc at hr hr'
        simp only at hr hr' hmx hmy
        rw [hxv] at hr
        rw [hyv] at hr'
        have hst1 := fun a m W => ins_store _ xv hxv a m W
        have hst2 := fun a m W => ins_store _ yv hyv a m W
        have HCL := Lib.hid (fun W => eqclosure_any ⟨xk, xr⟩ ⟨yk, yr⟩ xv yv b W hxv hyv hmx hmy hb)
        have HE := Lib.hid he
        have HKL := Lib.hid hkl
        have hkn : (k : Int) < (n : Int) := by omega
        have hr2 : (wr.alloc (.cells #[.string xk, xv] 80)).rangeAt gr' (o' + k * 2) [.string yk, yv] := range_below hr' (below_one wr _) (Nat.lt_of_lt_of_le (Nat.lt_of_lt_of_le hgr' hB) hbw.size)
        clear hx hy hcs hcs' he hb hxv hyv hmx hmy
        go_wp2_with (first | (refine wpList_load_mid rfl 80 _ rfl gr (o + k * 2) rfl _ _ hr Try.underlying80 rfl Try.infoRow ?_) | (refine wpList_load_mid rfl 80 _ rfl gr' (o' + k * 2) rfl _ _ hr2 Try.underlying80 rfl Try.infoRow ?_))
        refine (HCL.out _).mono ?_
        rintro e w2 ⟨rfl, hb2⟩
        have hbw2 : Below w.heap.size w w2 := hbw.trans (((below_two wr _ _).trans (hb2.mono (B' := wr.heap.size) (by simp; omega))).mono hbw.size)
        clear hr hr' hr2 hb2
        cases b with
        | false =>
          go_wp2
          go_ret
          exact ⟨by rw [HE.out]; rfl, hbw2⟩
        | true =>
          go_wp2
          go_roundw
          case rel => exact ⟨k + 1, by go_num, by have := HKL.out; omega, by rw [HE.out]; rfl, hbw2⟩
          case measure => have := HKL.out; simp [intOf]; omega
      · have hkn : k = n := by omega
        subst hkn
        have he2 : eqD l m = true := by rw [he, List.drop_of_length_le (by rw [HN.out]; exact Nat.le_refl _)]; rfl
        have HE := Lib.hid he2
        clear he he2
        go_wp2
        go_ret
        exact ⟨by rw [HE.out]; rfl, hbw⟩
  · have hlm2 : ((l.length : Int) != (m.length : Int)) = true := by rw [bne_iff_ne]; omega
    have hlm3 : ¬ ((l.length : Int) = (m.length : Int)) := by omega
    go_enter Try.func45, Try.ntmps45
    go_wp2
    go_ret
    exact ⟨by rw [eqD_len hlm]; rfl, Below.refl _ _⟩
set_option maxHeartbeats 1000000 in
theorem deq_any (B g g' : Nat) (l m : List Par) (w : World) (h : DocR w B g l) (h' : DocR w B g' m) (hB : B ≤ w.heap.size) (hg : Gd l) (hg' : Gd m) : Calls Try.prog 26 #[.pointer (some ⟨g, 0, none⟩), .pointer (some ⟨g', 0, none⟩)] w (Bl (eqD l m) w) := by
  obtain ⟨hgB, v, hv, A, c, rfl, hc, hcell⟩ := h
  obtain ⟨hgB', v', hv', A', c', rfl, hc', hcell'⟩ := h'
  go_enter Try.func26, Try.ntmps26
  have hef := fun W (hb : Below w.heap.size w W) => dequalFunc_any B (.slice A l.length c) (.slice A' m.length c') l m W (Rws.keep ⟨A, c, rfl, hc, hcell⟩ hb hB) (Rws.keep ⟨A', c', rfl, hc', hcell'⟩ hb hB) (Nat.le_trans hB hb.size) hg hg'
  obtain ⟨n, hn⟩ : ∃ n, l.length = n := ⟨_, rfl⟩
  obtain ⟨n', hn'⟩ : ∃ n, m.length = n := ⟨_, rfl⟩
  simp only [hn, hn'] at hef
  have HEF := Lib.hid hef
  rw [hn] at hv
  rw [hn'] at hv'
  have HN := Lib.hid hn
  have HN' := Lib.hid hn'
  have hb : Below w.heap.size w w.drew := (Below.refl _ _).drew
  clear hef hcell hcell' hg hg' hn hn' hc hc'
  go_wp2_with fail
  go_region_held3 (fun W => W.cell? ⟨g, 0, none⟩ = some (.slice A n c) ∧ W.cell? ⟨g', 0, none⟩ = some (.slice A' n' c')) (first | exact ⟨hv, hv'⟩ | assumption) (first | (go_at_call 45; refine (HEF.out _ hb).mono ?_; rintro e k1 ⟨rfl, h⟩; have hv1 := (h.cell (p := ⟨g, 0, none⟩) (Nat.lt_of_lt_of_le hgB hB)).trans hv; have hv1' := (h.cell (p := ⟨g', 0, none⟩) (Nat.lt_of_lt_of_le hgB' hB)).trans hv'; replace hv := hv1; replace hv' := hv1'; replace hb : Below w.heap.size w k1 := hb.trans (h.mono hb.size); clear h hv1 hv1'))
  go_wp2
  go_ret
  exact ⟨rfl, by assumption⟩
end Go.Proofs.Ytegkhkcnoahhdaa
