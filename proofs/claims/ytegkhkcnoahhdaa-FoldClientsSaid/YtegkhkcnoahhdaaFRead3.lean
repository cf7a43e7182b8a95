/-
  Package fold's reader: what each of its steps answers, and what rests; behind a part that can't be read all is bad.
  The reader lies in a block of its own; the bytes lie below it, at most 1,000,000.
-/
import Derived.Test.YtegkhkcnoahhdaaFTold
import Derived.Test.YtegkhkcnoahhdaaOpRead
import Derived.Great.Walk
import Derived.Test.YtegkhkcnoahhdaaFCopy
import Derived.Deep.Cut
set_option linter.unusedSimpArgs false
set_option linter.unusedVariables false
namespace Go.Proofs.Ytegkhkcnoahhdaa
open Go.RowKit
set_option maxRecDepth 100000

/-- a fold's reader at block g, with what rests and whether it is bad; its bytes lie below block B -/
def FRd (w : World) (g B : Nat) (s : RdS) : Prop := ∃ A c, Rb w g 70 [.slice A s.1.length c, .bool s.2] ∧ Byt w B (.slice A s.1.length c) s.1 ∧ B ≤ g
def FRo (g B : Nat) (v : Value) (s : RdS) (w : World) (e : Ending) (w' : World) : Prop := e = .returned v ∧ FRd w' g B s ∧ w.grownBy w' (some g)
theorem FRd.lt {w : World} {g B : Nat} {s : RdS} (h : FRd w g B s) : g < w.heap.size := by
  obtain ⟨A, c, h, _⟩ := h; exact Rb.lt h
theorem fbyt_set {w : World} {B g j : Nat} {v u : Value} {l : List UInt8} (h : Byt w B v l) (hB : B ≤ g) : Byt (w.setCell ⟨g, j, none⟩ u) B v l :=
  h.keep fun p hp => World.cell?_setCell_other _ _ _ _ (fun e => by rw [← e] at hp; simp at hp; omega)
theorem FRd.then_ {w w' : World} {g B : Nat} {s : RdS} (h : FRd w g B s) (hb : Below w.heap.size w w') : FRd w' g B s := by
  obtain ⟨A, c, h1, h2, h3⟩ := h
  exact ⟨A, c, h1.below hb, h2.below hb (by have := Rb.lt h1; omega), h3⟩
/-- a slice that reads as bytes, cut at k: how the machine writes it -/
theorem took_a (g B k c o gb : Nat) (b : Bool) (l : List UInt8) (w : World) (h : Rb w g 70 [.slice (some ⟨gb, o, none⟩) l.length c, .bool b]) (hby : Byt w B (.slice (some ⟨gb, o, none⟩) l.length c) l) (hB : B ≤ g) (hk : k ≤ l.length) (hkc : ¬ c = k) :
    Calls Try.prog 61 #[.pointer (some ⟨g, 0, none⟩), .int .i64 k, .int .i64 0] w (FRo g B (.tuple #[]) (l.drop k, b) w) := by
  have hlc : l.length ≤ c := by obtain ⟨_, _, hv, hc, _⟩ := hby; injection hv with _ _ e; omega
  have hcut := hby.cut hk
  rw [if_neg hkc, add_lit] at hcut
  have c0 := h.cell (j := 0) rfl
  have f0 := h.frz 0
  have HR := Lib.hid h; clear h
  have HC := Lib.hid hcut; clear hcut hby
  go_enter Try.func61, Try.ntmps61
  go_wp2
  refine Go.Great.bodyPost_end0 Try.results61 rfl ?_
  exact ⟨rfl, ⟨_, _, by simpa using HR.out.set 0 _, by simpa using fbyt_set HC.out hB, hB⟩, setCell_grown _ _ _⟩
theorem took_b (g B k o gb : Nat) (b : Bool) (l : List UInt8) (w : World) (h : Rb w g 70 [.slice (some ⟨gb, o, none⟩) k k, .bool b]) (hby : Byt w B (.slice (some ⟨gb, o, none⟩) k k) l) (hB : B ≤ g) :
    Calls Try.prog 61 #[.pointer (some ⟨g, 0, none⟩), .int .i64 k, .int .i64 0] w (FRo g B (.tuple #[]) ([], b) w) := by
  obtain rfl : k = l.length := by obtain ⟨A', c', hv, _⟩ := hby; injection hv
  have hcut := hby.cut (Nat.le_refl _)
  rw [if_pos rfl, Nat.sub_self, List.drop_length] at hcut
  have c0 := h.cell (j := 0) rfl
  have f0 := h.frz 0
  have HR := Lib.hid h; clear h
  have HC := Lib.hid hcut; clear hcut hby
  go_enter Try.func61, Try.ntmps61
  go_wp2
  refine Go.Great.bodyPost_end0 Try.results61 rfl ?_
  exact ⟨rfl, ⟨_, _, HR.out.set 0 _, fbyt_set HC.out hB, hB⟩, setCell_grown _ _ _⟩
/-- no bytes rest: whatever the slice is -/
theorem took_c (g B c : Nat) (A : Option Addr) (b : Bool) (w : World) (h : Rb w g 70 [.slice A 0 c, .bool b]) (hby : Byt w B (.slice A 0 c) []) (hB : B ≤ g) :
    Calls Try.prog 61 #[.pointer (some ⟨g, 0, none⟩), .int .i64 0, .int .i64 0] w (FRo g B (.tuple #[]) ([], b) w) := by
  have c0 := h.cell (j := 0) rfl
  have f0 := h.frz 0
  have HR := Lib.hid h; clear h
  have HC := Lib.hid hby; clear hby
  go_enter Try.func61, Try.ntmps61
  go_wp2
  refine Go.Great.bodyPost_end0 Try.results61 rfl ?_
  exact ⟨rfl, ⟨_, _, HR.out.set 0 _, fbyt_set HC.out hB, hB⟩, setCell_grown _ _ _⟩
theorem took_ok (g B k c : Nat) (A : Option Addr) (b : Bool) (l : List UInt8) (w : World) (h : Rb w g 70 [.slice A l.length c, .bool b]) (hby : Byt w B (.slice A l.length c) l) (hB : B ≤ g) (hk : k ≤ l.length) :
    Calls Try.prog 61 #[.pointer (some ⟨g, 0, none⟩), .int .i64 k, .int .i64 0] w (FRo g B (.tuple #[]) (l.drop k, b) w) := by
  rcases Nat.eq_zero_or_pos l.length with h0 | h0
  · obtain rfl := List.eq_nil_of_length_eq_zero h0
    obtain rfl : k = 0 := by simpa using hk
    exact took_c g B c A b w h hby hB
  · obtain ⟨A', c', hv, hc, hx⟩ := id hby
    injection hv with e1 _ e3
    subst e1; subst e3
    obtain ⟨gb, o, rfl, _⟩ := hx h0
    by_cases hkc : c = k
    · subst hkc
      obtain rfl : c = l.length := by omega
      rw [List.drop_length]
      exact took_b g B _ o gb b l w h hby hB
    · exact took_a g B k c o gb b l w h hby hB hk hkc
/-- behind a part with an error nothing rests -/
theorem took_bad (g B k e c : Nat) (A : Option Addr) (b : Bool) (l : List UInt8) (w : World) (h : Rb w g 70 [.slice A l.length c, .bool b]) (hby : Byt w B (.slice A l.length c) l) (hB : B ≤ g) (he : e ≠ 0) :
    Calls Try.prog 61 #[.pointer (some ⟨g, 0, none⟩), .int .i64 k, .int .i64 e] w (FRo g B (.tuple #[]) ([], true) w) := by
  have he2 : ((e : Int) != 0) = true := by simp; omega
  have he3 : ¬ ((e : Int) = 0) := by omega
  rcases Nat.eq_zero_or_pos l.length with h0 | h0
  · obtain rfl := List.eq_nil_of_length_eq_zero h0
    simp only [List.length_nil] at h hby
    have c0 := h.cell (j := 0) rfl
    have c1 := h.cell (j := 1) rfl
    have f0 := h.frz 0
    have f1 := h.frz 1
    have HR := Lib.hid h; clear h
    have HC := Lib.hid hby; clear hby
    go_enter Try.func61, Try.ntmps61
    go_wp2
    refine Go.Great.bodyPost_end0 Try.results61 rfl ?_
    exact ⟨rfl, ⟨_, _, (HR.out.set 1 _).set 0 _, fbyt_set (fbyt_set HC.out hB) hB, hB⟩, grownBy_trans (setCell_grown _ _ _) (setCell_grown _ _ _)⟩
  · obtain ⟨A', c', hv, hc, hx⟩ := id hby
    injection hv with e1 _ e3
    subst e1; subst e3
    obtain ⟨gb, o, rfl, _⟩ := hx h0
    have hcut := hby.cut (Nat.le_refl _)
    have c0 := h.cell (j := 0) rfl
    have c1 := h.cell (j := 1) rfl
    have f0 := h.frz 0
    have f1 := h.frz 1
    rw [List.drop_length, Nat.sub_self] at hcut
    by_cases hkc : c = l.length
    · rw [if_pos hkc, hkc, Nat.sub_self] at hcut
      rw [hkc] at c0 h
      obtain ⟨n, hn⟩ : ∃ n, l.length = n := ⟨_, rfl⟩
      rw [hn] at h c0
      have HR := Lib.hid h; clear h
      have HC := Lib.hid hcut; clear hcut hby hkc hx hn
      go_enter Try.func61, Try.ntmps61
      go_wp2
      refine Go.Great.bodyPost_end0 Try.results61 rfl ?_
      exact ⟨rfl, ⟨_, _, (HR.out.set 1 _).set 0 _, fbyt_set (fbyt_set HC.out hB) hB, hB⟩, grownBy_trans (setCell_grown _ _ _) (setCell_grown _ _ _)⟩
    · rw [if_neg hkc, add_lit] at hcut
      obtain ⟨n, hn⟩ : ∃ n, l.length = n := ⟨_, rfl⟩
      rw [hn] at h hcut c0 hkc hc
      have HR := Lib.hid h; clear h
      have HC := Lib.hid hcut; clear hcut hby hx hn
      go_enter Try.func61, Try.ntmps61
      go_wp2
      refine Go.Great.bodyPost_end0 Try.results61 rfl ?_
      exact ⟨rfl, ⟨_, _, (HR.out.set 1 _).set 0 _, fbyt_set (fbyt_set HC.out hB) hB, hB⟩, grownBy_trans (setCell_grown _ _ _) (setCell_grown _ _ _)⟩
/-- took, behind what num.Get or num.GetText answered -/
theorem took_is (g B k e : Nat) (s s' : RdS) (w : World) (h : FRd w g B s) (hk : k ≤ s.1.length) (hs : (if e = 0 then (s.1.drop k, s.2) else ([], true)) = s') :
    Calls Try.prog 61 #[.pointer (some ⟨g, 0, none⟩), .int .i64 k, .int .i64 e] w (FRo g B (.tuple #[]) s' w) := by
  obtain ⟨l, b⟩ := s
  obtain ⟨A, c, hr, hby, hB⟩ := h
  subst hs
  by_cases he : e = 0
  · subst he; rw [if_pos rfl]; exact took_ok g B k c A b l w hr hby hB hk
  · rw [if_neg he]; exact took_bad g B k e c A b l w hr hby hB he
set_option maxHeartbeats 400000 in
theorem fnum_any (g B : Nat) (s : RdS) (n : Int) (s' : RdS) (w : World) (h : FRd w g B s) (hl : s.1.length ≤ 1000000) (hs : rdN s = (n, s')) :
    Calls Try.prog 40 #[.pointer (some ⟨g, 0, none⟩)] w (FRo g B (.int .i64 n) s' w) := by
  have hk := Nu.get_len s.1
  obtain ⟨⟨m, k, e⟩, hr⟩ : ∃ r, Nu.get s.1 = r := ⟨_, rfl⟩
  have htk := took_is g B k e s s' w h (by rw [hr] at hk; exact hk) (by unfold rdN at hs; rw [hr] at hs; exact (Prod.mk.inj hs).2)
  obtain rfl : m = n := by unfold rdN at hs; rw [hr] at hs; exact (Prod.mk.inj hs).1
  obtain ⟨A, c, hrb, hby, hB⟩ := h
  have hget := nget_b _ _ _ B s.1 w hby hl
  rw [hr] at hget
  have c0 := hrb.cell (j := 0) rfl
  obtain ⟨z, hz⟩ : ∃ z, s.1.length = z := ⟨_, rfl⟩
  rw [hz] at c0 hget
  have HG := Lib.hid hget; clear hget hr
  have HT := Lib.hid htk; clear htk
  clear hrb hby hs hk hz
  go_enter Try.func40, Try.ntmps40
  go_wp2_with fail
  refine HG.out.mono ?_
  rintro e1 k1 ⟨rfl, rfl⟩
  go_wp2_with fail
  refine HT.out.mono ?_
  rintro e1 k1 ⟨rfl, h1, h2⟩
  go_wp2
  go_ret
  exact ⟨rfl, h1, h2⟩
set_option maxHeartbeats 400000 in
theorem ftxt_any (g B : Nat) (s : RdS) (n : ByteArray) (s' : RdS) (w : World) (h : FRd w g B s) (hl : s.1.length ≤ 1000000) (hs : rdT s = (n, s')) :
    Calls Try.prog 63 #[.pointer (some ⟨g, 0, none⟩)] w (FRo g B (.string n) s' w) := by
  have hk := getT_len s.1
  obtain ⟨⟨m, k, e⟩, hr⟩ : ∃ r, Nu.getT s.1 = r := ⟨_, rfl⟩
  have htk := took_is g B k e s s' w h (by rw [hr] at hk; exact hk) (by unfold rdT at hs; rw [hr] at hs; exact (Prod.mk.inj hs).2)
  obtain rfl : (⟨m.toArray⟩ : ByteArray) = n := by unfold rdT at hs; rw [hr] at hs; exact (Prod.mk.inj hs).1
  obtain ⟨A, c, hrb, hby, hB⟩ := h
  have hget := ngetText_b _ _ _ B s.1 w hby hl
  rw [hr] at hget
  have c0 := hrb.cell (j := 0) rfl
  obtain ⟨z, hz⟩ : ∃ z, s.1.length = z := ⟨_, rfl⟩
  rw [hz] at c0 hget
  have HG := Lib.hid hget; clear hget hr
  have HT := Lib.hid htk; clear htk
  clear hrb hby hs hk hz
  go_enter Try.func63, Try.ntmps63
  go_wp2_with fail
  refine HG.out.mono ?_
  rintro e1 k1 ⟨rfl, rfl⟩
  go_wp2_with fail
  refine HT.out.mono ?_
  rintro e1 k1 ⟨rfl, h1, h2⟩
  go_wp2
  go_ret
  exact ⟨rfl, h1, h2⟩
end Go.Proofs.Ytegkhkcnoahhdaa
/-
  Package fold's reader of a document and of a client's last batch.
  The reader lies in a block of its own; the bytes lie below it, at most 1,000,000.
-/
namespace Go.Proofs.Ytegkhkcnoahhdaa
open Go.RowKit
set_option maxRecDepth 100000

theorem results_c1 {P : Program} {fn : Func} {tmps : Array Value} {a : Nat} {ta : TypeId} {pa : Addr} {va : Value} {w : World} (hf : fn.results = #[.cell a ta]) (ha : tmps[a]?.getD undef = .pointer (some pa)) (h1 : (loadVar ta pa).run P w = .ok va w) : (results fn tmps).run P w = .ok va w := by
  unfold results
  rw [hf]
  simp [ha, h1, asAddr, Array.mapM_eq_mapM_toList, Sem.run_bind]
theorem Try.infoDoc1 : (Try.prog.info? 59).map (·.size) = some 1 := by kernel_rfl
/-- what a step of the reader that makes a document leaves -/
def FDo (g B : Nat) (x : List Par) (s : RdS) (w : World) (e : Ending) (w' : World) : Prop := ∃ A m c, e = .returned (.agg #[.slice A m c]) ∧ (OwnR w.heap.size (.slice A m c) x w' ∧ Gd x ∧ FRd w' g B s) ∧ w.grownBy w' (some g)
theorem frd_other {w : World} {g B G j : Nat} {s : RdS} {u : Value} (h : FRd w g B s) (hne : g ≠ G) (hB : B ≤ G) : FRd (w.setCell ⟨G, j, none⟩ u) g B s := by
  obtain ⟨A, c, h1, h2, h3⟩ := h
  exact ⟨A, c, h1.other _ _ hne, fbyt_set h2 hB, h3⟩
set_option maxHeartbeats 1000000 in
theorem frdoc_yes (g B : Nat) (s s' : RdS) (t : ByteArray) (x : List Par) (w : World) (h : FRd w g B s) (hl : s.1.length ≤ 1000000) (ht : rdT s = (t, s')) (hx : decD t.data.toList = some x) :
    Calls Try.prog 41 #[.pointer (some ⟨g, 0, none⟩)] w (FDo g B x s' w) := by
  have hgl := h.lt
  have hts : t.data.toList.length ≤ 1000000 := by have := rdT_size s; rw [ht] at this; rw [size_list]; simp only at this; omega
  have HT := Lib.hid (fun W (hW : Below w.heap.size w W) => ftxt_any g B s t s' W (h.then_ hW) hl ht)
  have HCV := Lib.hid (fun W => conv_text W t)
  have HD := Lib.hid (fun (W : World) (A : Option Addr) (n c C : Nat) (hby : Byt W C (.slice A n c) t.data.toList) (hC : C ≤ W.heap.size) => ldec_yes A n c W.heap.size C t.data.toList x W hby hC (Nat.le_refl _) hts hx)
  clear h hl ht hx
  go_enter Try.func41, Try.ntmps41
  go_wp2_with fail
  refine (HT.out _ (below_one w _)).mono ?_
  rintro e k1 ⟨rfl, hf1, hg1⟩
  have hz1 : w.heap.size + 1 ≤ k1.heap.size := by have := hg1.size; simpa using this
  have hr1 : Rb k1 w.heap.size 59 [.slice none 0 0] := (hg1.block w.heap.size (by simp) (fun e => by injection e with e; omega)).trans (Rb.new w _ _)
  have hgw1 : w.grownBy k1 (some g) := grownBy_trans (Below.by_ (below_one w _)) hg1
  clear hg1
  go_wp2_with fail
  obtain ⟨cv, k2, hcv, hby, hbk, hz2⟩ := HCV.out k1
  rw [hcv]
  clear hcv
  go_wp2_with fail
  replace hr1 := hr1.below hbk
  replace hf1 := hf1.then_ hbk
  have hgw2 : w.grownBy k2 (some g) := grown_then hgw1 (hbk.mono hgw1.size)
  refine (HD.out k2 _ _ _ _ hby (Nat.le_refl _)).mono ?_
  rintro e k3 ⟨gd, rfl, ⟨⟨hgx, v, hdo⟩, hlo⟩, hb3⟩
  obtain ⟨A3, m3, c3, rfl⟩ := own_slice3 hdo.own
  have d0 := cell_one hdo.here
  have hgdl := hdo.lt
  replace hr1 := hr1.below hb3
  replace hf1 := hf1.then_ hb3
  have hgw3 : w.grownBy k3 (some g) := grown_then hgw2 (hb3.mono hgw2.size)
  have r0 := hr1.cell (j := 0) rfl
  have f0 := hr1.frz 0
  have hlt := hr1.lt
  have hz3 : w.heap.size ≤ k2.heap.size := hgw2.size
  have HO := Lib.hid (ownsRow_down hdo.own hz3)
  have hBg : B ≤ g := by obtain ⟨_, _, _, _, h⟩ := hf1; exact h
  have HF := Lib.hid hf1
  clear hdo hf1 hb3 hby hbk
  go_wp2
  refine body_world7 (fun W => Rb W w.heap.size 59 [.slice A3 m3 c3] ∧ FDo g B x s' w (.returned (.agg #[.slice A3 m3 c3])) W) ⟨hr1.set 0 _, A3, m3, c3, rfl, ⟨rb_own HO.out hr1 (by decide), hgx, frd_other HF.out (by omega) (by omega)⟩, sets_from hgw3 [.slice A3 m3 c3] 0 (Nat.le_refl _)⟩ ?_
  rintro W ⟨h3, hW⟩
  refine bodyPost_ret (v := .agg #[.slice A3 m3 c3]) ?_ rfl hW
  exact results_c1 (a := 2) Try.results41 rfl (run_loadVar_mid W w.heap.size 0 _ [.slice A3 m3 c3] _ h3.range Try.underlying59 rfl Try.infoDoc1)
set_option maxHeartbeats 1000000 in
theorem frdoc_no (g B : Nat) (s s' : RdS) (t : ByteArray) (w : World) (h : FRd w g B s) (hl : s.1.length ≤ 1000000) (ht : rdT s = (t, s')) (hx : decD t.data.toList = none) :
    Calls Try.prog 41 #[.pointer (some ⟨g, 0, none⟩)] w (FDo g B [] (s'.1, true) w) := by
  have hgl := h.lt
  have hts : t.data.toList.length ≤ 1000000 := by have := rdT_size s; rw [ht] at this; rw [size_list]; simp only at this; omega
  have HT := Lib.hid (fun W (hW : Below w.heap.size w W) => ftxt_any g B s t s' W (h.then_ hW) hl ht)
  have HCV := Lib.hid (fun W => conv_text W t)
  have HD := Lib.hid (fun (W : World) (A : Option Addr) (n c C : Nat) (hby : Byt W C (.slice A n c) t.data.toList) (hC : C ≤ W.heap.size) => ldec_no A n c C t.data.toList W hby hC hts hx)
  clear h hl ht hx
  go_enter Try.func41, Try.ntmps41
  go_wp2_with fail
  refine (HT.out _ (below_one w _)).mono ?_
  rintro e k1 ⟨rfl, hf1, hg1⟩
  have hz1 : w.heap.size + 1 ≤ k1.heap.size := by have := hg1.size; simpa using this
  have hr1 : Rb k1 w.heap.size 59 [.slice none 0 0] := (hg1.block w.heap.size (by simp) (fun e => by injection e with e; omega)).trans (Rb.new w _ _)
  have hgw1 : w.grownBy k1 (some g) := grownBy_trans (Below.by_ (below_one w _)) hg1
  clear hg1
  go_wp2_with fail
  obtain ⟨cv, k2, hcv, hby, hbk, hz2⟩ := HCV.out k1
  rw [hcv]
  clear hcv
  go_wp2_with fail
  replace hr1 := hr1.below hbk
  replace hf1 := hf1.then_ hbk
  have hgw2 : w.grownBy k2 (some g) := grown_then hgw1 (hbk.mono hgw1.size)
  refine (HD.out k2 _ _ _ _ hby (Nat.le_refl _)).mono ?_
  rintro e k3 ⟨rfl, hb3⟩
  replace hr1 := hr1.below hb3
  replace hf1 := hf1.then_ hb3
  have hgw3 : w.grownBy k3 (some g) := grown_then hgw2 (hb3.mono hgw2.size)
  obtain ⟨A4, c4, hq, hby4, hBg⟩ := hf1
  have r0 := hr1.cell (j := 0) rfl
  have f0 := hr1.frz 0
  have hlt := hr1.lt
  have q1 := hq.cell (j := 1) rfl
  have fq1 := hq.frz 1
  have hgl3 : g < k3.heap.size := hq.lt
  have HQ := Lib.hid hq
  have HB4 := Lib.hid hby4
  clear hq hby4 hb3 hby hbk
  go_wp2
  refine body_world7 (fun W => Rb W w.heap.size 59 [.slice none 0 0] ∧ FDo g B [] (s'.1, true) w (.returned (.agg #[.slice none 0 0])) W) ⟨(hr1.other 1 (.bool true) (by omega)).set 0 _, none, 0, 0, rfl, ⟨World.ownsRow_nil _ _ _ _, gd_nil, A4, c4, (HQ.out.set 1 _).other _ _ (by omega), fbyt_set (fbyt_set HB4.out hBg) (by omega), hBg⟩, sets_from (grownBy_trans hgw3 (setCell_grown k3 ⟨g, 1, none⟩ (.bool true))) [.slice none 0 0] 0 (Nat.le_refl _)⟩ ?_
  rintro W ⟨h3, hW⟩
  refine bodyPost_ret (v := .agg #[.slice none 0 0]) ?_ rfl hW
  exact results_c1 (a := 2) Try.results41 rfl (run_loadVar_mid W w.heap.size 0 _ [.slice none 0 0] _ h3.range Try.underlying59 rfl Try.infoDoc1)
/-- the reader of a document, whatever the bytes -/
theorem frdoc_any (g B : Nat) (s s' : RdS) (x : List Par) (w : World) (h : FRd w g B s) (hl : s.1.length ≤ 1000000) (hs : rdD s = (x, s')) :
    Calls Try.prog 41 #[.pointer (some ⟨g, 0, none⟩)] w (FDo g B x s' w) := by
  unfold rdD at hs
  cases hd : decD (rdT s).1.data.toList with
  | none =>
    rw [hd] at hs
    injection hs with e1 e2
    subst e1; subst e2
    exact frdoc_no g B s (rdT s).2 (rdT s).1 w h hl rfl hd
  | some y =>
    rw [hd] at hs
    injection hs with e1 e2
    subst e1; subst e2
    exact frdoc_yes g B s (rdT s).2 (rdT s).1 y w h hl rfl hd
set_option maxHeartbeats 1000000 in
theorem frlast_a (g B : Nat) (s s' : RdS) (q : Int) (w : World) (h : FRd w g B s) (hl : s.1.length ≤ 1000000) (hs : rdN s = (q, s')) (hq : ¬ 0 < q) :
    Calls Try.prog 42 #[.pointer (some ⟨g, 0, none⟩)] w (FRo g B (.agg #[.int .i64 q, .int .i64 0, .string ⟨#[]⟩, .int .i64 0]) s' w) := by
  have hgl := h.lt
  have hBw : B ≤ w.heap.size := by obtain ⟨_, _, _, _, h⟩ := h; omega
  have HT := Lib.hid (fun W (hW : Below w.heap.size w W) => fnum_any g B s q s' W (h.then_ hW) hl hs)
  clear h hl hs
  go_enter Try.func42, Try.ntmps42
  go_wp2_with fail
  refine (HT.out _ (below_one w _)).mono ?_
  rintro e k1 ⟨rfl, hf1, hg1⟩
  have hz1 : w.heap.size + 1 ≤ k1.heap.size := by have := hg1.size; simpa using this
  have hr1 : Rb k1 w.heap.size 61 [.int .i64 0, .int .i64 0, .string ⟨#[]⟩, .int .i64 0] := (hg1.block w.heap.size (by simp) (fun e => by injection e with e; omega)).trans (Rb.new w _ _)
  have hgw1 : w.grownBy k1 (some g) := grownBy_trans (Below.by_ (below_one w _)) hg1
  clear hg1
  have r0 := hr1.cell (j := 0) rfl
  have f0 := hr1.frz 0
  have r1 := hr1.cell (j := 1) rfl
  have f1 := hr1.frz 1
  have r2 := hr1.cell (j := 2) rfl
  have f2 := hr1.frz 2
  have r3 := hr1.cell (j := 3) rfl
  have f3 := hr1.frz 3
  have hlt := hr1.lt
  have HF := Lib.hid hf1; clear hf1
  go_wp2
  refine body_world7 (fun W => Rb W w.heap.size 61 [.int .i64 q, .int .i64 0, .string ⟨#[]⟩, .int .i64 0] ∧ FRo g B (.agg #[.int .i64 q, .int .i64 0, .string ⟨#[]⟩, .int .i64 0]) s' w (.returned (.agg #[.int .i64 q, .int .i64 0, .string ⟨#[]⟩, .int .i64 0])) W) ⟨(((((hr1).set 0 _).set 1 _).set 2 _).set 3 _).below (below_one _ _), rfl, ?_, ?_⟩ ?_
  · exact FRd.then_ (frd_other (frd_other (frd_other (frd_other HF.out (by omega) hBw) (by omega) hBw) (by omega) hBw) (by omega) hBw) (below_one _ _)
  · exact grown_then (sets_from hgw1 [.int .i64 q, .int .i64 0, .string ⟨#[]⟩, .int .i64 0] 0 (Nat.le_refl _)) ((below_one _ _).mono (by have h9 := (sets_from hgw1 [.int .i64 q, .int .i64 0, .string ⟨#[]⟩, .int .i64 0] 0 (Nat.le_refl _)).size; exact h9))
  rintro W ⟨h3, hW⟩
  refine bodyPost_ret (v := .agg #[.int .i64 q, .int .i64 0, .string ⟨#[]⟩, .int .i64 0]) ?_ rfl hW
  exact results_c1 (a := 2) Try.results42 rfl (run_loadVar_mid W w.heap.size 0 _ [.int .i64 q, .int .i64 0, .string ⟨#[]⟩, .int .i64 0] _ h3.range Try.underlying61 rfl Try.infoLast)
set_option maxHeartbeats 2000000 in
theorem frlast_b (g B : Nat) (s s1 s2 s3 s' : RdS) (q p e : Int) (t : ByteArray) (w : World) (h : FRd w g B s) (hl : s.1.length ≤ 1000000) (hs : rdN s = (q, s1)) (hq : 0 < q) (hp : rdN s1 = (p, s2)) (ht : rdT s2 = (t, s3)) (he : rdN s3 = (e, s')) :
    Calls Try.prog 42 #[.pointer (some ⟨g, 0, none⟩)] w (FRo g B (.agg #[.int .i64 q, .int .i64 p, .string t, .int .i64 e]) s' w) := by
  have hgl := h.lt
  have hBw : B ≤ w.heap.size := by obtain ⟨_, _, _, _, h⟩ := h; omega
  have l1 : s1.1.length ≤ 1000000 := by have := rdN_len s; rw [hs] at this; simp only at this; omega
  have l2 : s2.1.length ≤ 1000000 := by have := rdN_len s1; rw [hp] at this; simp only at this; omega
  have l3 : s3.1.length ≤ 1000000 := by have := rdT_len s2; rw [ht] at this; simp only at this; omega
  have HT := Lib.hid (fun W (hW : Below w.heap.size w W) => fnum_any g B s q s1 W (h.then_ hW) hl hs)
  have HT2 := Lib.hid (fun W (hf : FRd W g B s1) => fnum_any g B s1 p s2 W hf l1 hp)
  have HT3 := Lib.hid (fun W (hf : FRd W g B s2) => ftxt_any g B s2 t s3 W hf l2 ht)
  have HT4 := Lib.hid (fun W (hf : FRd W g B s3) => fnum_any g B s3 e s' W hf l3 he)
  have hqn : ¬ q ≤ 0 := by omega
  clear h hl hs hp ht he l1 l2 l3
  go_enter Try.func42, Try.ntmps42
  go_wp2_with fail
  refine (HT.out _ (below_one w _)).mono ?_
  rintro e1 k1 ⟨rfl, hf1, hg1⟩
  have hz1 : w.heap.size + 1 ≤ k1.heap.size := by have := hg1.size; simpa using this
  have hr1 : Rb k1 w.heap.size 61 [.int .i64 0, .int .i64 0, .string ⟨#[]⟩, .int .i64 0] := (hg1.block w.heap.size (by simp) (fun e => by injection e with e; omega)).trans (Rb.new w _ _)
  have hgw1 : w.grownBy k1 (some g) := grownBy_trans (Below.by_ (below_one w _)) hg1
  clear hg1
  obtain ⟨G, hG⟩ : ∃ G, k1.heap.size = G := ⟨_, rfl⟩
  obtain ⟨W1, hW1⟩ : ∃ WW, k1.alloc (.cells #[.int .i64 q, .int .i64 0, .string ⟨#[]⟩, .int .i64 0] 61) = WW := ⟨_, rfl⟩
  have hbW : Below k1.heap.size k1 W1 := by rw [← hW1]; exact below_one _ _
  have hq1 : Rb W1 G 61 [.int .i64 q, .int .i64 0, .string ⟨#[]⟩, .int .i64 0] := by rw [← hW1]; exact Rb.new_at _ _ _ _ hG
  replace hr1 := hr1.below hbW
  replace hf1 := hf1.then_ hbW
  replace hgw1 := grown_then hgw1 (hbW.mono hgw1.size)
  have HW1 := Lib.hid hW1; clear hW1 hbW
  go_wp2_with fail
  rw [HW1.out]
  refine (HT2.out _ hf1).mono ?_
  rintro e1 k2 ⟨rfl, hf2, hg2⟩
  replace hr1 : Rb k2 w.heap.size 61 [.int .i64 0, .int .i64 0, .string ⟨#[]⟩, .int .i64 0] := (hg2.block _ hr1.lt (fun e => by injection e with e; omega)).trans hr1
  replace hq1 : Rb k2 G 61 [.int .i64 q, .int .i64 0, .string ⟨#[]⟩, .int .i64 0] := (hg2.block _ hq1.lt (fun e => by injection e with e; omega)).trans hq1
  replace hgw1 := grownBy_trans hgw1 hg2
  have g1 := hq1.cell (j := 1) rfl
  have fg1 := hq1.frz 1
  clear hg2 hf1 HW1
  have hgG : g ≠ G := by omega
  have hBG : B ≤ G := by omega
  have hGw : w.heap.size ≤ G := by omega
  have hGk := hq1.lt
  go_wp2_with fail
  have hfx3 := frd_other (j := 1) (u := .int .i64 p) hf2 hgG hBG
  refine (HT3.out _ hfx3).mono ?_
  rintro e1 k3 ⟨rfl, hf3, hg3⟩
  replace hr1 : Rb k3 w.heap.size 61 [.int .i64 0, .int .i64 0, .string ⟨#[]⟩, .int .i64 0] := (hg3.block _ (by have := hr1.lt; simpa using this) (fun e => by injection e with e; omega)).trans (hr1.other 1 (.int .i64 p) (by omega))
  replace hq1 : Rb k3 G 61 [.int .i64 q, .int .i64 p, .string ⟨#[]⟩, .int .i64 0] := (hg3.block _ (by have := hq1.lt; simpa using this) (fun e => by injection e with e; omega)).trans (hq1.set 1 (.int .i64 p))
  replace hgw1 := grownBy_trans (sets_from hgw1 [.int .i64 p] 1 hGw) hg3
  have g3 := hq1.cell (j := 2) rfl
  have fg3 := hq1.frz 2
  have hGk := hq1.lt
  clear hg3 hf2 hfx3 g1 fg1
  go_wp2_with fail
  have hfx4 := frd_other (j := 2) (u := .string t) hf3 hgG hBG
  refine (HT4.out _ hfx4).mono ?_
  rintro e1 k4 ⟨rfl, hf4, hg4⟩
  replace hr1 : Rb k4 w.heap.size 61 [.int .i64 0, .int .i64 0, .string ⟨#[]⟩, .int .i64 0] := (hg4.block _ (by have := hr1.lt; simpa using this) (fun e => by injection e with e; omega)).trans (hr1.other 2 (.string t) (by omega))
  replace hq1 : Rb k4 G 61 [.int .i64 q, .int .i64 p, .string t, .int .i64 0] := (hg4.block _ (by have := hq1.lt; simpa using this) (fun e => by injection e with e; omega)).trans (hq1.set 2 (.string t))
  replace hgw1 := grownBy_trans (sets_from hgw1 [.string t] 2 hGw) hg4
  have g4 := hq1.cell (j := 3) rfl
  have fg4 := hq1.frz 3
  have hGk := hq1.lt
  clear hg4 hf3 hfx4 g3 fg3
  have r0 := hr1.cell (j := 0) rfl
  have r1 := hr1.cell (j := 1) rfl
  have r2 := hr1.cell (j := 2) rfl
  have r3 := hr1.cell (j := 3) rfl
  have f0 := hr1.frz 0
  have f1 := hr1.frz 1
  have f2 := hr1.frz 2
  have f3 := hr1.frz 3
  have b0 := hq1.cell (j := 0) rfl
  have b1 := hq1.cell (j := 1) rfl
  have b2 := hq1.cell (j := 2) rfl
  have hlt := hr1.lt
  have HF := Lib.hid hf4; clear hf4
  go_wp2
  refine body_world7 (fun W => Rb W w.heap.size 61 [.int .i64 q, .int .i64 p, .string t, .int .i64 e] ∧ FRo g B (.agg #[.int .i64 q, .int .i64 p, .string t, .int .i64 e]) s' w (.returned (.agg #[.int .i64 q, .int .i64 p, .string t, .int .i64 e])) W) ⟨((((hr1.other 3 (.int .i64 e) (by omega)).set 0 _).set 1 _).set 2 _).set 3 _, rfl, ?_, ?_⟩ ?_
  · exact frd_other (frd_other (frd_other (frd_other (frd_other HF.out hgG hBG) (by omega) hBw) (by omega) hBw) (by omega) hBw) (by omega) hBw
  · exact sets_from (sets_from hgw1 [.int .i64 e] 3 hGw) [.int .i64 q, .int .i64 p, .string t, .int .i64 e] 0 (Nat.le_refl _)
  rintro W ⟨h3, hW⟩
  refine bodyPost_ret (v := .agg #[.int .i64 q, .int .i64 p, .string t, .int .i64 e]) ?_ rfl hW
  exact results_c1 (a := 2) Try.results42 rfl (run_loadVar_mid W w.heap.size 0 _ [.int .i64 q, .int .i64 p, .string t, .int .i64 e] _ h3.range Try.underlying61 rfl Try.infoLast)
theorem frlast_any (g B : Nat) (s s' : RdS) (l : La) (w : World) (h : FRd w g B s) (hl : s.1.length ≤ 1000000) (hs : rdL s = (l, s')) :
    Calls Try.prog 42 #[.pointer (some ⟨g, 0, none⟩)] w (FRo g B (.agg #[.int .i64 l.seq, .int .i64 l.place, .string l.txt, .int .i64 l.err]) s' w) := by
  unfold rdL at hs
  obtain ⟨⟨q, s1⟩, h1⟩ : ∃ r, rdN s = r := ⟨_, rfl⟩
  obtain ⟨⟨p, s2⟩, h2⟩ : ∃ r, rdN s1 = r := ⟨_, rfl⟩
  obtain ⟨⟨t, s3⟩, h3⟩ : ∃ r, rdT s2 = r := ⟨_, rfl⟩
  obtain ⟨⟨e, s4⟩, h4⟩ : ∃ r, rdN s3 = r := ⟨_, rfl⟩
  simp only [h1, h2, h3, h4] at hs
  by_cases hq : q > 0
  · rw [if_pos hq] at hs
    injection hs with e1 e2
    subst e1; subst e2
    exact frlast_b g B s s1 s2 s3 s4 q p e t w h hl h1 hq h2 h3 h4
  · rw [if_neg hq] at hs
    injection hs with e1 e2
    subst e1; subst e2
    exact frlast_a g B s s1 q w h hl h1 hq
end Go.Proofs.Ytegkhkcnoahhdaa
/-
  Package fold's reader of a whole fold.
  The reader lies in a block of its own; the bytes lie below it, at most 1,000,000.
-/
namespace Go.Proofs.Ytegkhkcnoahhdaa
open Go.RowKit
set_option maxRecDepth 100000

theorem laAt_push (l : List La) (x : La) : laAt (l ++ [x]) = upd (laAt l) l.length x := by
  funext c
  unfold laAt upd
  simp only [List.getD_eq_getElem?_getD]
  by_cases h : c = l.length
  · subst h; simp
  · rw [if_neg h]
    by_cases h2 : c < l.length
    · rw [List.getElem?_append_left h2]
    · rw [List.getElem?_eq_none (by simp; omega), List.getElem?_eq_none (by omega)]
theorem rdLs_laok : ∀ (k : Nat) (s : RdS), s.1.length ≤ 1000000 → ∀ i, (laAt (rdLs k s).1 i).ok
  | 0, _, _, i => by
    show (zLa).ok
    exact ⟨i64_0, i64_0, (by show (0 : Nat) ≤ 1000000; decide), i64_0⟩
  | k + 1, s, h, i => by
    rw [rdLs]
    simp only
    rw [laAt_push]
    unfold upd
    split
    · exact rdL_la _ (Nat.le_trans (rdLs_rest k s) h)
    · exact rdLs_laok k s h i
theorem fd_rdr {w : World} {B C g : Nat} {v : Value} {l : List Par} {s : RdS} (ho : OwnR C v l w) (h : FRd w g B s) : v.ownBlock ≠ some g := fun e2 => by
  obtain ⟨A, c, hr, _, _⟩ := h
  unfold OwnR at ho
  rcases ho.2 with ⟨rfl, _⟩ | ⟨g', c, cur, rfl, _, hg, _⟩
  · cases e2
  · injection e2 with e2
    simp only at e2
    subst e2
    unfold Rb at hr
    rw [hg] at hr
    injection hr with hr
    injection hr with h2 h3 h4
    exact absurd h3 (by decide)
theorem frd_others {w : World} {g B G : Nat} {s : RdS} (h : FRd w g B s) (hne : g ≠ G) (hB : B ≤ G) : ∀ (vs : List Value) (o : Nat), FRd (w.setCells G o vs) g B s
  | [], _ => h
  | u :: r, o => frd_others (w := w.setCell ⟨G, o, none⟩ u) (frd_other h hne hB) hne hB r (o + 1)
set_option maxHeartbeats 2000000 in
theorem frfold_a (g B : Nat) (s s1 s2 : RdS) (p : Int) (d : List Par) (w : World) (h : FRd w g B s) (hl : s.1.length ≤ 1000000) (hp : rdN s = (p, s1)) (hd : rdD s1 = (d, s2)) :
    Calls Try.prog 24 #[.pointer (some ⟨g, 0, none⟩)] w fun e w' => ∃ G dv, e = .returned (.pointer (some ⟨G, 0, none⟩)) ∧ (w.heap.size ≤ G ∧ Fr w' G p dv (laAt (rdLs 5 s2).1) ∧ OwnR w.heap.size dv d w' ∧ Gd d ∧ FRd w' g B (rdLs 5 s2).2) ∧ w.grownBy w' (some g) := by
  have hgl := h.lt
  have l1 : s1.1.length ≤ 1000000 := by have := rdN_len s; rw [hp] at this; simp only at this; omega
  have l2 : s2.1.length ≤ 1000000 := by have := rdD_len s1; rw [hd] at this; simp only at this; omega
  have HN := Lib.hid (fun W (hW : Below w.heap.size w W) => fnum_any g B s p s1 W (h.then_ hW) hl hp)
  have HD := Lib.hid (fun W (hf : FRd W g B s1) => frdoc_any g B s1 s2 d W hf l1 hd)
  have hb := Below.refl w.heap.size w
  clear h hl hp hd
  go_enter Try.func24, Try.ntmps24
  go_wp2_with fail
  refine (HN.out _ hb).mono ?_
  rintro e k1 ⟨rfl, hf1, hg1⟩
  go_wp2_with fail
  refine (HD.out _ hf1).mono ?_
  rintro e k2 ⟨A, m, c, rfl, ⟨ho, hgd, hf2⟩, hg2⟩
  have hgw := grownBy_trans hg1 hg2
  have HO := Lib.hid (ownsRow_down ho hg1.size)
  have HF := Lib.hid hf2
  clear hf1 hg1 hg2 ho hf2
  obtain ⟨G, hG⟩ : ∃ G, k2.heap.size = G := ⟨_, rfl⟩
  go_wp2_with fail
  refine wp_world (fun W => Fr W G p (.slice A m c) (laAt (rdLs 0 s2).1) ∧ OwnR w.heap.size (.slice A m c) d W ∧ FRd W g B (rdLs 0 s2).2 ∧ w.grownBy W (some g)) ⟨Rb.new_at _ _ _ (fcs p (.slice A m c) (laAt [])) hG, ownsRow_below HO.out (below_one _ _), HF.out.then_ (below_one _ _), grown_then hgw ((below_one _ _).mono hgw.size)⟩ ?_
  rintro W0 ⟨hfr0, ho0, hf0, hgw0⟩
  have hwG : w.heap.size ≤ G := by rw [← hG]; exact hgw.size
  have hgG : g ≠ G := by omega
  have HLA := Lib.hid l2
  clear HO HF hgw HN HD hb hG
  go_loopw [11] (fun i wr => ∃ k : Nat, i = .int .i64 k ∧ k ≤ 5 ∧ Fr wr G p (.slice A m c) (laAt (rdLs k s2).1) ∧ OwnR w.heap.size (.slice A m c) d wr ∧ FRd wr g B (rdLs k s2).2 ∧ w.grownBy wr (some g)) (fun i _ => 5 - (intOf i).toNat)
  case atStart => exact ⟨0, rfl, by omega, hfr0, ho0, hf0, hgw0⟩
  case round =>
    obtain ⟨k, rfl, hk, hfr, hown, hfd, hgwr⟩ := hrel
    clear hfr0 ho0 hf0 hgw0
    by_cases hk5 : k < 5
    · obtain ⟨la, s3, hla⟩ : ∃ la s3, rdL (rdLs k s2).2 = (la, s3) := ⟨_, _, rfl⟩
      have hRL := fun W (hW : Below wr.heap.size wr W) => frlast_any g B (rdLs k s2).2 s3 la W (hfd.then_ hW) (Nat.le_trans (rdLs_rest k s2) HLA.out) hla
      have HRL := Lib.hid hRL; clear hRL
      have hlen := rdLs_len k s2
      have hsucc : rdLs (k + 1) s2 = ((rdLs k s2).1 ++ [la], s3) := by rw [rdLs, hla]
      have HS := Lib.hid hsucc; clear hsucc
      clear hla
      go_wp2_with fail
      have hw2 : ¬ (5 : Int) ≤ (k : Int) := by omega
      refine wp_region_noPanic ?_
      refine wp_region_held_drew (S := fun W => True) (by kernel_rfl) ?_ (fun hHeld => ?_)
      · trivial
      have hbd : Below wr.heap.size wr wr.drew := (Below.refl _ _).drew
      refine wpAnyH_take (i := 0) (oi := { dst := some 14, op := Op.move (Operand.tmp 3), type := 26, pos := "fold.go:176", after := #[], guard := none }) (v := .pointer (some ⟨G, 0, none⟩)) rfl (by kernel_rfl) (by kernel_rfl) (by kernel_rfl) (fun _ _ _ h => h) (Or.inl ⟨by rfl, fun w hSw => ?_⟩) (by assumption) ?_
      · (try dsimp only at hSw)
        go_simp
      try simp only [Act.put, List.setIfInBounds_toArray, List.set_cons_zero, List.set_cons_succ]
      refine wpAnyH_take (i := 1) (oi := { dst := some 15, op := Op.move (Operand.tmp 4), type := 3, pos := "fold.go:176", after := #[], guard := none }) (v := .int .i64 (k : Int)) rfl (by kernel_rfl) (by kernel_rfl) (by kernel_rfl) (fun _ _ _ h => h) (Or.inl ⟨by rfl, fun w hSw => ?_⟩) (by assumption) ?_
      · (try dsimp only at hSw)
        go_simp
      try simp only [Act.put, List.setIfInBounds_toArray, List.set_cons_zero, List.set_cons_succ]
      refine wpAnyH_take (i := 2) (oi := { dst := some 16, op := Op.move (Operand.tmp 0), type := 89, pos := "fold.go:176", after := #[], guard := none }) (v := .pointer (some ⟨g, 0, none⟩)) rfl (by kernel_rfl) (by kernel_rfl) (by kernel_rfl) (fun _ _ _ h => h) (Or.inl ⟨by rfl, fun w hSw => ?_⟩) (by assumption) ?_
      · (try dsimp only at hSw)
        go_simp
      try simp only [Act.put, List.setIfInBounds_toArray, List.set_cons_zero, List.set_cons_succ]
      refine wpAnyH_take (i := 4) (oi := { dst := some 18, op := Op.nilCheck (Operand.tmp 14), type := 0, pos := "fold.go:176", after := #[{ on := 0, ground := Ground.data }], guard := none }) (v := .pointer (some ⟨G, 0, none⟩)) rfl (by kernel_rfl) (by kernel_rfl) (by kernel_rfl) (fun _ _ _ h => h) (Or.inl ⟨by rfl, fun w hSw => ?_⟩) (by assumption) ?_
      · (try dsimp only at hSw)
        go_simp
      try simp only [Act.put, List.setIfInBounds_toArray, List.set_cons_zero, List.set_cons_succ]
      refine wpAnyH_take (i := 5) (oi := { dst := some 19, op := Op.fieldAddr 64 (Operand.tmp 18) 2, type := 0, pos := "fold.go:176", after := #[{ on := 4, ground := Ground.data }], guard := none }) (v := .pointer (some ⟨G, 2, none⟩)) rfl (by kernel_rfl) (by kernel_rfl) (by kernel_rfl) (fun _ _ _ h => h) (Or.inl ⟨by rfl, fun w hSw => ?_⟩) (by assumption) ?_
      · (try dsimp only at hSw)
        go_simp
      try simp only [Act.put, List.setIfInBounds_toArray, List.set_cons_zero, List.set_cons_succ]
      refine wpAnyH_ready (rs := [3]) (by kernel_rfl) (by simp) ?_
      refine AllReadyH.cons (o := { dst := some 17, op := Op.call { callee := Callee.value (Operand.func 42), args := #[Operand.tmp 16], argTypes := #[89] }, type := 61, pos := "fold.go:176", after := #[{ on := 2, ground := Ground.data }], guard := none }) rfl (fun K hK => ?_) AllReadyH.nil
      go_simp
      go_at_call 42
      refine (HRL.out _ hbd).mono ?_
      rintro e1 k1 ⟨rfl, hf1, hg1⟩
      replace hfr : Fr k1 G p (.slice A m c) (laAt (rdLs k s2).1) := (hg1.block G (by have := hfr.lt; exact this) (fun e => hgG (by injection e with e; exact e.symm))).trans hfr
      replace hown : OwnR w.heap.size (.slice A m c) d k1 := World.ownsRow.kept (ownsRow_below hown hbd) hg1 (.inr (fd_rdr (ownsRow_below hown hbd) (hfd.then_ hbd)))
      replace hgwr : w.grownBy k1 (some g) := grownBy_trans (grown_then hgwr (hbd.mono hgwr.size)) hg1
      clear hg1 hbd hfd
      try dsimp only
      refine hK.out _ _ ?_ (fun hHeld => ?_)
      · trivial
      clear hK K
      try simp only [Act.put, List.setIfInBounds_toArray, List.set_cons_zero, List.set_cons_succ]
      refine wpAnyH_take (i := 6) (oi := { dst := some 20, op := Op.indexAddr 62 (Operand.tmp 19) (Operand.tmp 15), type := 0, pos := "fold.go:176", after := #[{ on := 5, ground := Ground.data }, { on := 1, ground := Ground.data }, { on := 0, ground := Ground.phase }, { on := 1, ground := Ground.phase }, { on := 2, ground := Ground.phase }, { on := 3, ground := Ground.phase }], guard := none }) (v := .pointer (some ⟨G, 2 + k * 4, none⟩)) rfl (by kernel_rfl) (by kernel_rfl) (by kernel_rfl) (fun _ _ _ h => h) (Or.inl ⟨by rfl, fun w hSw => ?_⟩) (by assumption) ?_
      · (try dsimp only at hSw)
        go_simp
      try simp only [Act.put, List.setIfInBounds_toArray, List.set_cons_zero, List.set_cons_succ]
      refine wpAnyH_ready (rs := [7]) (by kernel_rfl) (by simp) ?_
      refine AllReadyH.cons (o := { dst := none, op := Op.store 61 (Operand.tmp 20) (Operand.tmp 17), type := 0, pos := "fold.go:176", after := #[{ on := 6, ground := Ground.data }, { on := 3, ground := Ground.data }, { on := 3, ground := Ground.chain }, { on := 0, ground := Ground.phase }, { on := 1, ground := Ground.phase }, { on := 2, ground := Ground.phase }, { on := 3, ground := Ground.phase }], guard := none }) rfl (fun K hK => ?_) AllReadyH.nil
      rw [if_pos (by rfl)]
      refine wp_store_mid 61 _ _ rfl G (2 + k * 4) #[.int .i64 la.seq, .int .i64 la.place, .string la.txt, .int .i64 la.err] rfl rfl (Rb.there hfr (by rw [fcs_len]; simp; omega)) Try.infoLast (all_oneCell_toArray (cs := [.int .i64 la.seq, .int .i64 la.place, .string la.txt, .int .i64 la.err]) (by simp [Value.oneCell'])) ?_
      obtain ⟨k2, hk9⟩ : ∃ WW, k1.setCells G (2 + k * 4) [.int .i64 la.seq, .int .i64 la.place, .string la.txt, .int .i64 la.err] = WW := ⟨_, rfl⟩
      have hfr2 : Fr k2 G p (.slice A m c) (laAt (rdLs (k + 1) s2).1) := by
        rw [← hk9, HS.out]
        have h := Rb.sets [.int .i64 la.seq, .int .i64 la.place, .string la.txt, .int .i64 la.err] (2 + k * 4) _ _ hfr
        rw [show [.int .i64 la.seq, .int .i64 la.place, .string la.txt, .int .i64 la.err] = laV la from rfl, fcs_last _ _ _ _ _ hk5] at h
        simp only
        rw [laAt_push, hlen]
        exact h
      have hown2 : OwnR w.heap.size (.slice A m c) d k2 := by rw [← hk9]; exact rb_owns row_ne_fold _ _ _ _ hown hfr
      have hfd2 : FRd k2 g B (rdLs (k + 1) s2).2 := by
        rw [← hk9, HS.out]
        exact frd_others hf1 hgG (by obtain ⟨_, _, _, _, h⟩ := hf1; omega) _ _
      have hgw2 : w.grownBy k2 (some g) := by rw [← hk9]; exact sets_from hgwr [.int .i64 la.seq, .int .i64 la.place, .string la.txt, .int .i64 la.err] (2 + k * 4) hwG
      show K _ (k1.setCells G (2 + k * 4) [.int .i64 la.seq, .int .i64 la.place, .string la.txt, .int .i64 la.err])
      rw [hk9]
      clear hk9 hfr hown hf1 hgwr
      try dsimp only
      refine hK.out _ _ ?_ (fun hHeld => ?_)
      · trivial
      clear hK K
      try simp only [Act.put, List.setIfInBounds_toArray, List.set_cons_zero, List.set_cons_succ]
      refine wpAnyH_done (by kernel_rfl) ?_ _
      refine NoPanic.normal ?_
      have HF2 := Lib.hid hfd2
      have HFR2 := Lib.hid hfr2
      clear hfd2 hfr2 HS
      go_wp2
      go_roundw
      case rel => exact ⟨k + 1, by go_num, by omega, HFR2.out, hown2, HF2.out, hgw2⟩
      case measure => simp [intOf]; omega
    · obtain rfl : k = 5 := by omega
      have HF5 := Lib.hid hfd
      have HFR5 := Lib.hid hfr
      clear hfd hfr
      go_wp2
      go_ret
      exact ⟨G, _, rfl, ⟨hwG, HFR5.out, hown, hgd, HF5.out⟩, hgwr⟩
theorem frfold_any (g B : Nat) (l : List UInt8) (w : World) (h : FRd w g B (l, false)) (hl : l.length ≤ 1000000) (p : Int) (d : List Par) (ls : List La) (s : RdS) (hs : rdF l = (p, d, ls, s)) :
    Calls Try.prog 24 #[.pointer (some ⟨g, 0, none⟩)] w fun e w' => ∃ G dv, e = .returned (.pointer (some ⟨G, 0, none⟩)) ∧ (w.heap.size ≤ G ∧ Fr w' G p dv (laAt ls) ∧ OwnR w.heap.size dv d w' ∧ Gd d ∧ FRd w' g B s) ∧ w.grownBy w' (some g) := by
  obtain ⟨⟨p1, s1⟩, h1⟩ : ∃ r, rdN (l, false) = r := ⟨_, rfl⟩
  obtain ⟨⟨d1, s2⟩, h2⟩ : ∃ r, rdD s1 = r := ⟨_, rfl⟩
  unfold rdF at hs
  simp only [h1, h2] at hs
  injection hs with e1 e2
  injection e2 with e2 e3
  injection e3 with e3 e4
  subst e1; subst e2; subst e3; subst e4
  exact frfold_a g B (l, false) s1 s2 p1 d1 w h hl h1 h2
end Go.Proofs.Ytegkhkcnoahhdaa
