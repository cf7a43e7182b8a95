/-
  The laws' begun answers true.
  There are no conditions.
-/
import Derived.Test.YtbiecoifeeikpaaC12Ref3
import Derived.Test.YtbiecoifeeikpaaC12Mdl
import Derived.Test.YtbiecoifeeikpaaC12Code
namespace Go.Proofs.Ytbiecoifeeikpaa
open Go.RowKit Go.Deep
set_option maxRecDepth 100000

theorem Ints.nxt {k k' : World} {v : Value} {L : List Int} (h : Ints k k.heap.size v L) (hb : Below k.heap.size k k') : Ints k' k'.heap.size v L := (h.keep hb (Nat.le_refl _)).more hb.size
theorem ints_at {w k : World} (cs : List Value) (t : TypeId) (l : List Int) (n : Nat) (hc : cs = intCells l) (hn : l.length = n) (hk : w.alloc (.cells cs.toArray t) = k) : Ints k k.heap.size (.slice (some ⟨w.heap.size, 0, none⟩) n n) l := by
  subst hn; subst hc
  have h := ints_new w (intCells l).toArray t l rfl
  rw [hk] at h
  exact h.more (by rw [← hk]; simp)
theorem below_at {w k : World} {o : Obj} (hk : w.alloc o = k) : Below w.heap.size w k := by rw [← hk]; exact below_new12 w o
section
variable {A : Option Addr} {c n : Nat} {L : List Int} {A2 : Option Addr} {c2 m : Nat} {M : List Int} {w : World}
theorem may_n (h : Ints w w.heap.size (.slice A n c) L) (hn : L.length = n) (hl : n ≤ 1000) {b : Bool} (hb : may12 L = b) : Calls Try.prog 15 #[.slice A n c] w fun e w' => e = .returned (.bool b) ∧ w = w' := by subst hn; subst hb; exact may12_w A c _ L w h hl
theorem has_n (x : Int) (h : Ints w w.heap.size (.slice A n c) L) (hn : L.length = n) (hl : n ≤ 1000) {b : Bool} (hb : L.contains x = b) : Calls Try.prog 19 #[.slice A n c, .int .i64 x] w fun e w' => e = .returned (.bool b) ∧ w = w' := by subst hn; subst hb; exact has12_w A c _ L x w h hl
theorem add_n (x : Int) (h : Ints w w.heap.size (.slice A n c) L) (hn : L.length = n) (hl : n ≤ 1000) {r : Option (List Int)} (hr : add12 L x = r) : Calls Try.prog 10 #[.slice A n c, .int .i64 x] w (Dec12 r w) := by subst hn; subst hr; exact add12_w A c _ L x w h (Nat.le_refl _) hl
theorem near_n (h : Ints w w.heap.size (.slice A n c) L) (h2 : Ints w w.heap.size (.slice A2 m c2) M) (hn : L.length = n) (hm : M.length = m) (hl : n ≤ 1000) (hl2 : m ≤ 1000) {b : Bool} (hb : near12 L M = b) : Calls Try.prog 24 #[.slice A n c, .slice A2 m c2] w fun e w' => e = .returned (.bool b) ∧ w = w' := by subst hn; subst hm; subst hb; exact near12_w A c _ L A2 c2 _ M w h h2 hl hl2
theorem eq_n (h : Ints w w.heap.size (.slice A n c) L) (h2 : Ints w w.heap.size (.slice A2 m c2) M) (hn : L.length = n) (hm : M.length = m) (hl : n ≤ 1000) (hl2 : m ≤ 1000) {b : Bool} (hb : eqL L M = b) : Calls Try.prog 21 #[.slice A n c, .slice A2 m c2] w fun e w' => e = .returned (.bool b) ∧ Below w.heap.size w w' := by subst hn; subst hm; subst hb; exact eq12_w A c _ L A2 c2 _ M w h h2 hl hl2
theorem maj_n (h : Ints w w.heap.size (.slice A n c) L) (h2 : Ints w w.heap.size (.slice A2 m c2) M) (hn : L.length = n) (hm : M.length = m) (hl : n ≤ 1000) (hl2 : m ≤ 1000) {b : Bool} (hb : maj12 L M = b) : Calls Try.prog 23 #[.slice A n c, .slice A2 m c2] w fun e w' => e = .returned (.bool b) ∧ Below w.heap.size w w' := by subst hn; subst hm; subst hb; exact maj12_w A c _ L A2 c2 _ M w h h2 (Nat.le_refl _) (Nat.le_refl _) hl hl2
theorem mid_n (h : Ints w w.heap.size (.slice A n c) L) (h2 : Ints w w.heap.size (.slice A2 m c2) M) (hn : L.length = n) (hm : M.length = m) (hl : n ≤ 1000) (hl2 : m ≤ 1000) {b : Int} (hb : midR L M = b) : Calls Try.prog 25 #[.slice A n c, .slice A2 m c2] w fun e w' => e = .returned (.int .i64 b) ∧ Below w.heap.size w w' := by subst hn; subst hm; subst hb; exact mid12_w A c _ L A2 c2 _ M w h h2 (Nat.le_refl _) (Nat.le_refl _) hl hl2
theorem enc_n (h : Ints w w.heap.size (.slice A n c) L) (hn : L.length = n) (hl : n ≤ 1000) {b : ByteArray} (hb : enc12 L = b) : Calls Try.prog 17 #[.slice A n c] w fun e w' => e = .returned (.string b) ∧ Below w.heap.size w w' := by subst hn; subst hb; exact encode12_w A c _ L w h (Nat.le_refl _) hl
theorem dec_n (s : ByteArray) (hl : s.size ≤ 1000000) {r : Option (List Int)} (hr : dec12 s = r) : Calls Try.prog 13 #[.string s] w (Dec12 r w) := by subst hr; exact decode12_w s w hl
theorem rem_n (x : Int) (h : Ints w w.heap.size (.slice A n c) L) (hn : L.length = n) (hl : n ≤ 1000) {r : Option (List Int)} (hr : rem12 L x = r) : Calls Try.prog 12 #[.slice A n c, .int .i64 x] w (Dec12 r w) := by subst hn; subst hr; exact rem12_w A c _ L x w h (Nat.le_refl _) hl
end
theorem midR_5 : midR [1, 2, 3] [0, 5, 7, 1] = 5 := by
  have h : (has12 [1, 2, 3] [0, 5, 7, 1]).mergeSort (fun x y : Int => decide (x ≤ y)) = [1, 5, 7] := by
    have hp := List.mergeSort_perm (has12 [1, 2, 3] [0, 5, 7, 1]) (fun x y : Int => decide (x ≤ y))
    have hq : (has12 [1, 2, 3] [0, 5, 7, 1]).Perm [1, 5, 7] := by decide
    refine (hp.trans hq).eq_of_pairwise (le := fun a b : Int => a ≤ b) (fun a b _ _ h1 h2 => by omega) (sort12_sorted _) (by decide)
  unfold midR mid12
  rw [h]
  rfl
set_option maxHeartbeats 2000000 in
theorem begun12_any (w : World) : Calls Try.prog 7 #[] w fun e w' => e = .returned (.bool true) ∧ Below w.heap.size w w' := by
  go_enter Try.func7, Try.ntmps7
  obtain ⟨k1, hk1⟩ : ∃ k, w.alloc (.cells #[.int .i64 1, .int .i64 3] 3) = k := ⟨_, rfl⟩
  have hbk1 := below_at hk1
  have I1 := Lib.hid (ints_at [.int .i64 1, .int .i64 3] 3 [1, 3] 2 rfl rfl hk1)
  have HB1 := Lib.hid (hbk1)
  clear hbk1
  go_wp2_with fail
  refine (add_n 2 I1.out rfl (by decide) (r := some [1, 2, 3]) (by decide)).mono ?_
  rintro e k2 ⟨hbk2, A1, c1, rfl, hi⟩
  replace I1 := Lib.hid (I1.out.nxt hbk2)
  have HB2 := Lib.hid (HB1.out.trans (hbk2.mono HB1.out.size))
  clear hbk2
  have IL := Lib.hid hi
  clear hi hk1
  go_wp2_with fail
  refine (dec_n ⟨#[49, 50, 51]⟩ (by decide) (r := some [1, 2, 3]) (by decide)).mono ?_
  rintro e k3 ⟨hbk3, A2, c2, rfl, hi⟩
  replace I1 := Lib.hid (I1.out.nxt hbk3)
  replace IL := Lib.hid (IL.out.nxt hbk3)
  have HB3 := Lib.hid (HB2.out.trans (hbk3.mono HB2.out.size))
  clear hbk3
  have IM := Lib.hid hi
  clear hi
  obtain ⟨k4, hk4⟩ : ∃ k, k3.alloc (.cells #[.int .i64 1, .int .i64 3] 3) = k := ⟨_, rfl⟩
  have hbk4 := below_at hk4
  have I2 := Lib.hid (ints_at [.int .i64 1, .int .i64 3] 3 [1, 3] 2 rfl rfl hk4)
  replace I1 := Lib.hid (I1.out.nxt hbk4)
  replace IL := Lib.hid (IL.out.nxt hbk4)
  replace IM := Lib.hid (IM.out.nxt hbk4)
  have HB4 := Lib.hid (HB3.out.trans (hbk4.mono HB3.out.size))
  clear hbk4
  go_wp2_with fail
  refine (may_n I2.out rfl (by decide) (b := true) (by decide)).mono ?_
  rintro e w' ⟨rfl, rfl⟩
  go_wp2_with fail
  refine (may_n (Ints.nil k4 k4.heap.size) rfl (by decide) (b := false) (by decide)).mono ?_
  rintro e w' ⟨rfl, rfl⟩
  obtain ⟨k5, hk5⟩ : ∃ k, k4.alloc (.cells #[.int .i64 1, .int .i64 2, .int .i64 3] 3) = k := ⟨_, rfl⟩
  have hbk5 := below_at hk5
  have I3 := Lib.hid (ints_at [.int .i64 1, .int .i64 2, .int .i64 3] 3 [1, 2, 3] 3 rfl rfl hk5)
  replace I1 := Lib.hid (I1.out.nxt hbk5)
  replace IL := Lib.hid (IL.out.nxt hbk5)
  replace IM := Lib.hid (IM.out.nxt hbk5)
  replace I2 := Lib.hid (I2.out.nxt hbk5)
  have HB5 := Lib.hid (HB4.out.trans (hbk5.mono HB4.out.size))
  clear hbk5
  go_wp2_with fail
  refine (eq_n IL.out I3.out rfl rfl (by decide) (by decide) (b := true) (by decide)).mono ?_
  rintro e k6 ⟨rfl, hbk6⟩
  replace I1 := Lib.hid (I1.out.nxt hbk6)
  replace IL := Lib.hid (IL.out.nxt hbk6)
  replace IM := Lib.hid (IM.out.nxt hbk6)
  replace I2 := Lib.hid (I2.out.nxt hbk6)
  replace I3 := Lib.hid (I3.out.nxt hbk6)
  have HB6 := Lib.hid (HB5.out.trans (hbk6.mono HB5.out.size))
  clear hbk6
  go_wp2_with fail
  refine (eq_n IM.out IL.out rfl rfl (by decide) (by decide) (b := true) (by decide)).mono ?_
  rintro e k7 ⟨rfl, hbk7⟩
  replace I1 := Lib.hid (I1.out.nxt hbk7)
  replace IL := Lib.hid (IL.out.nxt hbk7)
  replace IM := Lib.hid (IM.out.nxt hbk7)
  replace I2 := Lib.hid (I2.out.nxt hbk7)
  replace I3 := Lib.hid (I3.out.nxt hbk7)
  have HB7 := Lib.hid (HB6.out.trans (hbk7.mono HB6.out.size))
  clear hbk7
  go_wp2_with fail
  refine (enc_n IL.out rfl (by decide) (b := ⟨#[49, 50, 51]⟩) (by decide)).mono ?_
  rintro e k8 ⟨rfl, hbk8⟩
  replace I1 := Lib.hid (I1.out.nxt hbk8)
  replace IL := Lib.hid (IL.out.nxt hbk8)
  replace IM := Lib.hid (IM.out.nxt hbk8)
  replace I2 := Lib.hid (I2.out.nxt hbk8)
  replace I3 := Lib.hid (I3.out.nxt hbk8)
  have HB8 := Lib.hid (HB7.out.trans (hbk8.mono HB7.out.size))
  clear hbk8
  obtain ⟨k9, hk9⟩ : ∃ k, k8.alloc (.cells #[.int .i64 1, .int .i64 3] 3) = k := ⟨_, rfl⟩
  have hbk9 := below_at hk9
  have I4 := Lib.hid (ints_at [.int .i64 1, .int .i64 3] 3 [1, 3] 2 rfl rfl hk9)
  replace I1 := Lib.hid (I1.out.nxt hbk9)
  replace IL := Lib.hid (IL.out.nxt hbk9)
  replace IM := Lib.hid (IM.out.nxt hbk9)
  replace I2 := Lib.hid (I2.out.nxt hbk9)
  replace I3 := Lib.hid (I3.out.nxt hbk9)
  have HB9 := Lib.hid (HB8.out.trans (hbk9.mono HB8.out.size))
  clear hbk9
  go_wp2_with fail
  refine (near_n IL.out I4.out rfl rfl (by decide) (by decide) (b := true) (by decide)).mono ?_
  rintro e w' ⟨rfl, rfl⟩
  obtain ⟨k10, hk10⟩ : ∃ k, k9.alloc (.cells #[.int .i64 1, .int .i64 2] 3) = k := ⟨_, rfl⟩
  have hbk10 := below_at hk10
  have I5 := Lib.hid (ints_at [.int .i64 1, .int .i64 2] 3 [1, 2] 2 rfl rfl hk10)
  replace I1 := Lib.hid (I1.out.nxt hbk10)
  replace IL := Lib.hid (IL.out.nxt hbk10)
  replace IM := Lib.hid (IM.out.nxt hbk10)
  replace I2 := Lib.hid (I2.out.nxt hbk10)
  replace I3 := Lib.hid (I3.out.nxt hbk10)
  replace I4 := Lib.hid (I4.out.nxt hbk10)
  have HB10 := Lib.hid (HB9.out.trans (hbk10.mono HB9.out.size))
  clear hbk10
  go_wp2_with fail
  refine (maj_n IL.out I5.out rfl rfl (by decide) (by decide) (b := true) (by decide)).mono ?_
  rintro e k11 ⟨rfl, hbk11⟩
  replace I1 := Lib.hid (I1.out.nxt hbk11)
  replace IL := Lib.hid (IL.out.nxt hbk11)
  replace IM := Lib.hid (IM.out.nxt hbk11)
  replace I2 := Lib.hid (I2.out.nxt hbk11)
  replace I3 := Lib.hid (I3.out.nxt hbk11)
  replace I4 := Lib.hid (I4.out.nxt hbk11)
  replace I5 := Lib.hid (I5.out.nxt hbk11)
  have HB11 := Lib.hid (HB10.out.trans (hbk11.mono HB10.out.size))
  clear hbk11
  obtain ⟨k12, hk12⟩ : ∃ k, k11.alloc (.cells #[.int .i64 0, .int .i64 5, .int .i64 7, .int .i64 1] 2) = k := ⟨_, rfl⟩
  have hbk12 := below_at hk12
  have I6 := Lib.hid (ints_at [.int .i64 0, .int .i64 5, .int .i64 7, .int .i64 1] 2 [0, 5, 7, 1] 4 rfl rfl hk12)
  replace I1 := Lib.hid (I1.out.nxt hbk12)
  replace IL := Lib.hid (IL.out.nxt hbk12)
  replace IM := Lib.hid (IM.out.nxt hbk12)
  replace I2 := Lib.hid (I2.out.nxt hbk12)
  replace I3 := Lib.hid (I3.out.nxt hbk12)
  replace I4 := Lib.hid (I4.out.nxt hbk12)
  replace I5 := Lib.hid (I5.out.nxt hbk12)
  have HB12 := Lib.hid (HB11.out.trans (hbk12.mono HB11.out.size))
  clear hbk12
  go_wp2_with fail
  refine (mid_n IL.out I6.out rfl rfl (by decide) (by decide) midR_5).mono ?_
  rintro e k13 ⟨rfl, hbk13⟩
  replace I1 := Lib.hid (I1.out.nxt hbk13)
  replace IL := Lib.hid (IL.out.nxt hbk13)
  replace IM := Lib.hid (IM.out.nxt hbk13)
  replace I2 := Lib.hid (I2.out.nxt hbk13)
  replace I3 := Lib.hid (I3.out.nxt hbk13)
  replace I4 := Lib.hid (I4.out.nxt hbk13)
  replace I5 := Lib.hid (I5.out.nxt hbk13)
  replace I6 := Lib.hid (I6.out.nxt hbk13)
  have HB13 := Lib.hid (HB12.out.trans (hbk13.mono HB12.out.size))
  clear hbk13
  go_wp2
  go_ret
  exact ⟨rfl, HB13.out⟩
end Go.Proofs.Ytbiecoifeeikpaa
