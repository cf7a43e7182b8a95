/-
  Fifty keys there may be; a number goes to 2^62 and no further. There are no conditions.
-/
import Derived.Test.YtkgfbfopopmbhaaRows
import Derived.Test.YtkgfbfopopmbhaaL6Box
import Derived.Test.YtkgfbfopopmbhaaL6Ends
import Derived.Test.YtkgfbfopopmbhaaLawKit
import Derived.WalkKit
import Derived.ProofKit
import Derived.OpenShut
import Derived.ShutString
set_option linter.unusedSimpArgs false
set_option linter.unusedVariables false
namespace Go.Proofs.Ytkgfbfopopmbhaa.docEnds
open Go.ChangeShapes Go.WideShapes Go.ChangeAt Go.RowKit
open Go.ChangeMaps (open_string shut_string)
set_option linter.unusedVariables false

theorem own : ownKnob Try.prog.godebug = none := by kernel_rfl

set_option maxRecDepth 100000 in
set_option maxHeartbeats 8000000 in
theorem walk (w : World) (a0 : Int) (w0 : (Lit.int .i64 a0).wf = true) (a1 : Int) (w1 : (Lit.int .i64 a1).wf = true) (a2 : Int) (w2 : (Lit.int .i64 a2).wf = true) :
    Calls Try.prog 6 #[.int .i64 a0, .int .i64 a1, .int .i64 a2] w fun e w' => e = .returned (.bool true) ∧ Below w.heap.size w w' := by
  have hn0 := wf_i64 w0
  have hn1 := wf_i64 w1
  have hn2 := wf_i64 w2
  have hb := Below.refl w.heap.size w
  go_enter Try.func6, Try.ntmps6
  go_wp2_with fail
  refine (begun6_any _).mono ?_
  rintro e k1 ⟨rfl, h⟩
  have hk : Below w.heap.size w k1 := HK9 h
  have hz := h.size
  try simp at hz
  replace hb : Below w.heap.size w k1 := hb.trans (hk.mono hb.size)
  clear h hk
  by_cases hin : 0 ≤ a0 ∧ a0 ≤ 60 ∧ -1099511627776 ≤ a2 ∧ a2 ≤ 1099511627776
  · obtain ⟨n, rfl⟩ : ∃ n : Nat, a0 = (n : Int) := ⟨a0.toNat, by omega⟩
    obtain ⟨h1, h2, h3, h4⟩ := hin
    have hn60 : n ≤ 60 := by omega
    go_wp2_with fail
    refine (lnew_is w.heap.size _ (by have := hb.size; first | omega | exact Nat.le_refl _ | (simp; omega))).mono ?_
    rintro e k2 ⟨rfl, hd9, h⟩
    have hk : Below k1.heap.size k1 k2 := HK9 h
    have hz := h.size
    try simp at hz
    replace hb : Below w.heap.size w k2 := hb.trans (hk.mono hb.size)
    clear h hk
    have HD := Lib.hid hd9; clear hd9
    have hltHD : k1.heap.size < k2.heap.size := HD.out.lt
    go_wp2_with fail
    go_loopw [9] (fun i wr => ∃ k : Nat, i = .int .i64 k ∧ k ≤ n ∧ Dc wr w.heap.size (k1.heap.size) (docE (min k 50)) ∧ Below w.heap.size w wr) (fun i _ => n - (intOf i).toNat)
    case atStart => exact ⟨0, rfl, Nat.zero_le _, (Dc.below HD.out BL9), (BB9 hb)⟩
    case round =>
      have hw9 : w.heap.size ≤ k1.heap.size := HD.out.lo
      clear hb HD
      obtain ⟨k, rfl, hk, hd, hb⟩ := hrel
      have HD := Lib.hid hd; clear hd
      by_cases hkn : k < n
      · obtain ⟨d, hd⟩ : ∃ d, k / 10 = d := ⟨_, rfl⟩
        obtain ⟨m, hm⟩ : ∃ m, k % 10 = m := ⟨_, rfl⟩
        have hd5 : d ≤ 5 := by omega
        have hm9 : m ≤ 9 := by omega
        have hq1 : Int.tdiv (k : Int) 10 = (d : Int) := by rw [← hd]; rfl
        have hq2 : Int.tmod (k : Int) 10 = (m : Int) := by rw [← hm]; rfl
        have hw1 : IntKind.u8.wrap (65 + (d : Int)) = 65 + (d : Int) := wrap_u8 _ (by omega) (by omega)
        have hw2 : IntKind.u8.wrap (48 + (m : Int)) = 48 + (m : Int) := wrap_u8 _ (by omega) (by omega)
        have hkey : strOfNums [65 + (d : Int), 48 + (m : Int)] = keyE k := by
          unfold strOfNums keyE
          rw [hd, hm]
          show (⟨([65 + (d : Int), 48 + (m : Int)].map _).toArray⟩ : ByteArray) = _
          congr 1
        have hcv := conv2 wr (65 + (d : Int)) (48 + (m : Int))
        rw [hkey] at hcv
        have hst := docE_step k (by omega)
        have HST := Lib.hid hst; clear hst hkey hd hm
        have hki : (k : Int) < (n : Int) := by omega
        by_cases h50 : k < 50
        · rw [if_pos h50] at HST
          have h5i : (k : Int) < 50 := by omega
          go_wp2_with fail
          refine calls_world (fun W => Ops W (wr.heap.size + 1 + 1) (.slice (some ⟨wr.heap.size + 1, 0, none⟩) 1 1) [putO (keyE k) 1] ∧ Below (wr.heap.size) wr W ∧ wr.heap.size + 2 ≤ W.heap.size) ⟨(ops_new _ _ [putO (keyE k) 1] (by simp)), BL9, LT9⟩ ?_
          rintro k21 ⟨hop, hk, hz⟩
          replace HD := Lib.hid (Dc.below HD.out hk)
          replace hb : Below w.heap.size w k21 := hb.trans (hk.mono (by first | exact hb.size | omega | (simp; omega)))
          clear hk
          have HOP := Lib.hid hop; clear hop
          refine (lapply_is w.heap.size _ _ _ _ _ _ 0 _ HD.out HOP.out (by omega) (fun o ho => by rw [List.mem_singleton.1 ho]; exact keyE_ok k) HST.out).mono ?_
          rintro e k22 ⟨rfl, hd9, hgr⟩
          have hz9 := hgr.size
          have hbe : Below k21.heap.size k21 _ := Below.refl _ _
          clear hbe
          try simp at hz9
          replace hb : Below w.heap.size w k22 := Dc.frame (w0 := w) (hb := hgr) (h := Dc.below HD.out BL9) (h0 := (BB9 hb)) (hB := by have := hb.size; first | omega | (simp; omega))
          replace HD := Lib.hid hd9
          clear hd9
          clear hgr
          clear HOP
          go_wp2
          go_roundw
          case rel => exact ⟨k + 1, by go_num, by omega, HD.out, hb⟩
          case measure => simp [intOf]; omega
        · rw [if_neg h50] at HST
          have h5i : ¬ (k : Int) < 50 := by omega
          go_wp2_with fail
          refine calls_world (fun W => Ops W (wr.heap.size + 1 + 1) (.slice (some ⟨wr.heap.size + 1, 0, none⟩) 1 1) [putO (keyE k) 1] ∧ Below (wr.heap.size) wr W ∧ wr.heap.size + 2 ≤ W.heap.size) ⟨(ops_new _ _ [putO (keyE k) 1] (by simp)), BL9, LT9⟩ ?_
          rintro k21 ⟨hop, hk, hz⟩
          replace HD := Lib.hid (Dc.below HD.out hk)
          replace hb : Below w.heap.size w k21 := hb.trans (hk.mono (by first | exact hb.size | omega | (simp; omega)))
          clear hk
          have HOP := Lib.hid hop; clear hop
          refine (lapply_is w.heap.size _ _ _ _ _ _ 6 _ HD.out HOP.out (by omega) (fun o ho => by rw [List.mem_singleton.1 ho]; exact keyE_ok k) HST.out).mono ?_
          rintro e k22 ⟨rfl, hd9, hgr⟩
          have hz9 := hgr.size
          have hbe : Below k21.heap.size k21 _ := Below.refl _ _
          clear hbe
          try simp at hz9
          replace hb : Below w.heap.size w k22 := Dc.frame (w0 := w) (hb := hgr) (h := Dc.below HD.out BL9) (h0 := (BB9 hb)) (hB := by have := hb.size; first | omega | (simp; omega))
          replace HD := Lib.hid hd9
          clear hd9
          clear hgr
          clear HOP
          go_wp2
          go_roundw
          case rel => exact ⟨k + 1, by go_num, by omega, HD.out, hb⟩
          case measure => simp [intOf]; omega
      · have hkn2 : k = n := by omega
        subst hkn2
        clear hk hkn
        have hk60 : k ≤ 60 := hn60
        by_cases hc0 : k = 0 ∨ 50 < k
        · obtain ⟨N, hN⟩ : ∃ N, min k 50 = N := ⟨_, rfl⟩
          have hNl := docE_len N
          rw [hN] at HD
          have hmi : min (k : Int) 50 = (N : Int) := by omega
          have HNL := Lib.hid hNl; clear hNl
          rcases hc0 with hc0 | hc0
          · have hN0 : N = 0 := by omega
            subst hN0
            subst hc0
            go_wp2_with fail
            refine (lkeys_is w.heap.size _ 0 _ _ (Dc.below HD.out BL9) HNL.out).mono ?_
            rintro e k21 ⟨gk, rfl, hK, h⟩
            have hk : Below wr.heap.size wr k21 := HK9 h
            have hz := h.size
            try simp at hz
            replace HD := Lib.hid (Dc.below HD.out hk)
            replace hb : Below w.heap.size w k21 := hb.trans (hk.mono hb.size)
            clear h hk
            clear hK
            go_wp2
            go_ret
            exact ⟨by first | rfl | simp, hb⟩
          · have hN0 : N = 50 := by omega
            subst hN0
            have h7 : (50 : Int) < (k : Int) := by omega
            have h8 : ((k : Int) == 0) = false := by rw [beq_eq_false_iff_ne]; omega
            have h9 : ¬ (k : Int) = 0 := by omega
            go_wp2_with fail
            refine (lkeys_is w.heap.size _ 50 _ _ (Dc.below HD.out BL9) HNL.out).mono ?_
            rintro e k21 ⟨gk, rfl, hK, h⟩
            have hk : Below wr.heap.size wr k21 := HK9 h
            have hz := h.size
            try simp at hz
            replace HD := Lib.hid (Dc.below HD.out hk)
            replace hb : Below w.heap.size w k21 := hb.trans (hk.mono hb.size)
            clear h hk
            clear hK
            go_wp2
            go_ret
            exact ⟨by first | rfl | simp, hb⟩
        · have h7 : ¬ (50 : Int) < (k : Int) := by omega
          have h8 : ((k : Int) == 0) = false := by rw [beq_eq_false_iff_ne]; omega
          have h9 : ¬ (k : Int) = 0 := by omega
          obtain ⟨t, ht⟩ := docE_head k (by omega)
          rw [show keyE 0 = (⟨#[65, 48]⟩ : ByteArray) from rfl] at ht
          have hgd := HD.out.1
          rw [show min k 50 = k by omega, ht] at HD hgd
          have hk0 : Ru.key (⟨#[65, 48]⟩ : ByteArray).data.toList = true := by decide +kernel
          have KP := Lib.hid (put_head (p := ⟨⟨#[65, 48]⟩, ⟨1, 1, ⟨#[]⟩⟩⟩) hgd.srt hk0 a1)
          have hgd2 := hgd.apply (os := [putO ⟨#[65, 48]⟩ a1]) (fun o ho => by rw [List.mem_singleton.1 ho]; exact putO_ok (by decide) hn1)
          have hgd3 : Gd (⟨⟨#[65, 48]⟩, ⟨1, a1, ⟨#[]⟩⟩⟩ :: t) := by
            have := KP.out
            simp only at this
            rw [this] at hgd2; exact hgd2
          clear hgd hgd2 ht
          go_wp2_with fail
          refine calls_world (fun W => Ops W (wr.heap.size + 1) (.slice (some ⟨wr.heap.size, 0, none⟩) 1 1) [putO ⟨#[65, 48]⟩ a1] ∧ Below (wr.heap.size) wr W ∧ wr.heap.size + 1 ≤ W.heap.size) ⟨(ops_new _ _ [putO ⟨#[65, 48]⟩ a1] (by simp)), BL9, LT9⟩ ?_
          rintro k21 ⟨hop, hk, hz⟩
          replace HD := Lib.hid (Dc.below HD.out hk)
          replace hb : Below w.heap.size w k21 := hb.trans (hk.mono (by first | exact hb.size | omega | (simp; omega)))
          clear hk
          have HOP := Lib.hid hop; clear hop
          refine (lapply_is w.heap.size _ _ _ (⟨⟨#[65, 48]⟩, ⟨1, 1, ⟨#[]⟩⟩⟩ :: t) (⟨⟨#[65, 48]⟩, ⟨1, a1, ⟨#[]⟩⟩⟩ :: t) _ 0 _ HD.out HOP.out (by omega) (fun o ho => by rw [List.mem_singleton.1 ho]; exact putO_ok (by decide) hn1) KP.out).mono ?_
          rintro e k22 ⟨rfl, hd9, hgr⟩
          have hz9 := hgr.size
          have hbe : Below k21.heap.size k21 _ := Below.refl _ _
          clear hbe
          try simp at hz9
          replace hb : Below w.heap.size w k22 := Dc.frame (w0 := w) (hb := hgr) (h := Dc.below HD.out BL9) (h0 := (BB9 hb)) (hB := by have := hb.size; first | omega | (simp; omega))
          replace HD := Lib.hid hd9
          clear hd9
          clear hgr
          clear HOP
          have hcs : a1 < -4611686018427387904 ∨ 4611686018427387904 < a1 ∨ ((¬ a1 < -4611686018427387904 ∧ ¬ 4611686018427387904 < a1) ∧ (a1 + a2 < -4611686018427387904 ∨ 4611686018427387904 < a1 + a2 ∨ (¬ a1 + a2 < -4611686018427387904 ∧ ¬ 4611686018427387904 < a1 + a2))) := by omega
          rcases hcs with c1 | c1 | ⟨⟨c1, c2⟩, c3 | c3 | ⟨c3, c4⟩⟩
          · have KA := Lib.hid (add_err (k := ⟨#[65, 48]⟩) (a := a1) (b := a2) (t := t) hk0 h3 h4 (.inl (farB_lt c1)))
            go_wp2_with fail
            refine calls_world (fun W => Ops W (k22.heap.size + 1) (.slice (some ⟨k22.heap.size, 0, none⟩) 1 1) [addO ⟨#[65, 48]⟩ a2] ∧ Below (k22.heap.size) k22 W ∧ k22.heap.size + 1 ≤ W.heap.size) ⟨(ops_new _ _ [addO ⟨#[65, 48]⟩ a2] (by simp)), BL9, LT9⟩ ?_
            rintro k23 ⟨hop, hk, hz⟩
            replace HD := Lib.hid (Dc.below HD.out hk)
            replace hb : Below w.heap.size w k23 := hb.trans (hk.mono (by first | exact hb.size | omega | (simp; omega)))
            clear hk
            have HOP := Lib.hid hop; clear hop
            refine (lapply_is w.heap.size _ _ _ (⟨⟨#[65, 48]⟩, ⟨1, a1, ⟨#[]⟩⟩⟩ :: t) (⟨⟨#[65, 48]⟩, ⟨1, a1, ⟨#[]⟩⟩⟩ :: t) _ 4 _ HD.out HOP.out (by omega) (fun o ho => by rw [List.mem_singleton.1 ho]; exact addO_ok (by decide) hn2) KA.out).mono ?_
            rintro e k24 ⟨rfl, hd9, hgr⟩
            have hz9 := hgr.size
            have hbe : Below k23.heap.size k23 _ := Below.refl _ _
            clear hbe
            try simp at hz9
            replace hb : Below w.heap.size w k24 := Dc.frame (w0 := w) (hb := hgr) (h := Dc.below HD.out BL9) (h0 := (BB9 hb)) (hB := by have := hb.size; first | omega | (simp; omega))
            replace HD := Lib.hid hd9
            clear hd9
            clear hgr
            clear HOP
            have KG := Lib.hid (dGet_head ⟨⟨#[65, 48]⟩, ⟨1, a1, ⟨#[]⟩⟩⟩ t)
            go_wp2_with fail
            refine (lget_is w.heap.size _ (⟨⟨#[65, 48]⟩, ⟨1, a1, ⟨#[]⟩⟩⟩ :: t) ⟨#[65, 48]⟩ 1 (a1) ⟨#[]⟩ true _ (Dc.below HD.out BL9) (by decide) KG.out).mono ?_
            rintro e k25 ⟨rfl, h⟩
            have hk : Below k24.heap.size k24 k25 := HK9 h
            have hz := h.size
            try simp at hz
            replace HD := Lib.hid (Dc.below HD.out hk)
            replace hb : Below w.heap.size w k25 := hb.trans (hk.mono hb.size)
            clear h hk
            go_wp2
            go_ret
            exact ⟨by first | rfl | simp, by first | exact hb | exact hb.alloc hb.size _⟩
          · have c0 : ¬ a1 < -4611686018427387904 := by omega
            have KA := Lib.hid (add_err (k := ⟨#[65, 48]⟩) (a := a1) (b := a2) (t := t) hk0 h3 h4 (.inl (farB_gt c1)))
            go_wp2_with fail
            refine calls_world (fun W => Ops W (k22.heap.size + 1) (.slice (some ⟨k22.heap.size, 0, none⟩) 1 1) [addO ⟨#[65, 48]⟩ a2] ∧ Below (k22.heap.size) k22 W ∧ k22.heap.size + 1 ≤ W.heap.size) ⟨(ops_new _ _ [addO ⟨#[65, 48]⟩ a2] (by simp)), BL9, LT9⟩ ?_
            rintro k23 ⟨hop, hk, hz⟩
            replace HD := Lib.hid (Dc.below HD.out hk)
            replace hb : Below w.heap.size w k23 := hb.trans (hk.mono (by first | exact hb.size | omega | (simp; omega)))
            clear hk
            have HOP := Lib.hid hop; clear hop
            refine (lapply_is w.heap.size _ _ _ (⟨⟨#[65, 48]⟩, ⟨1, a1, ⟨#[]⟩⟩⟩ :: t) (⟨⟨#[65, 48]⟩, ⟨1, a1, ⟨#[]⟩⟩⟩ :: t) _ 4 _ HD.out HOP.out (by omega) (fun o ho => by rw [List.mem_singleton.1 ho]; exact addO_ok (by decide) hn2) KA.out).mono ?_
            rintro e k24 ⟨rfl, hd9, hgr⟩
            have hz9 := hgr.size
            have hbe : Below k23.heap.size k23 _ := Below.refl _ _
            clear hbe
            try simp at hz9
            replace hb : Below w.heap.size w k24 := Dc.frame (w0 := w) (hb := hgr) (h := Dc.below HD.out BL9) (h0 := (BB9 hb)) (hB := by have := hb.size; first | omega | (simp; omega))
            replace HD := Lib.hid hd9
            clear hd9
            clear hgr
            clear HOP
            have KG := Lib.hid (dGet_head ⟨⟨#[65, 48]⟩, ⟨1, a1, ⟨#[]⟩⟩⟩ t)
            go_wp2_with fail
            refine (lget_is w.heap.size _ (⟨⟨#[65, 48]⟩, ⟨1, a1, ⟨#[]⟩⟩⟩ :: t) ⟨#[65, 48]⟩ 1 (a1) ⟨#[]⟩ true _ (Dc.below HD.out BL9) (by decide) KG.out).mono ?_
            rintro e k25 ⟨rfl, h⟩
            have hk : Below k24.heap.size k24 k25 := HK9 h
            have hz := h.size
            try simp at hz
            replace HD := Lib.hid (Dc.below HD.out hk)
            replace hb : Below w.heap.size w k25 := hb.trans (hk.mono hb.size)
            clear h hk
            go_wp2
            go_ret
            exact ⟨by first | rfl | simp, by first | exact hb | exact hb.alloc hb.size _⟩
          · have KA := Lib.hid (add_err (k := ⟨#[65, 48]⟩) (a := a1) (b := a2) (t := t) hk0 h3 h4 (.inr (farB_lt c3)))
            go_wp2_with fail
            refine calls_world (fun W => Ops W (k22.heap.size + 1) (.slice (some ⟨k22.heap.size, 0, none⟩) 1 1) [addO ⟨#[65, 48]⟩ a2] ∧ Below (k22.heap.size) k22 W ∧ k22.heap.size + 1 ≤ W.heap.size) ⟨(ops_new _ _ [addO ⟨#[65, 48]⟩ a2] (by simp)), BL9, LT9⟩ ?_
            rintro k23 ⟨hop, hk, hz⟩
            replace HD := Lib.hid (Dc.below HD.out hk)
            replace hb : Below w.heap.size w k23 := hb.trans (hk.mono (by first | exact hb.size | omega | (simp; omega)))
            clear hk
            have HOP := Lib.hid hop; clear hop
            refine (lapply_is w.heap.size _ _ _ (⟨⟨#[65, 48]⟩, ⟨1, a1, ⟨#[]⟩⟩⟩ :: t) (⟨⟨#[65, 48]⟩, ⟨1, a1, ⟨#[]⟩⟩⟩ :: t) _ 4 _ HD.out HOP.out (by omega) (fun o ho => by rw [List.mem_singleton.1 ho]; exact addO_ok (by decide) hn2) KA.out).mono ?_
            rintro e k24 ⟨rfl, hd9, hgr⟩
            have hz9 := hgr.size
            have hbe : Below k23.heap.size k23 _ := Below.refl _ _
            clear hbe
            try simp at hz9
            replace hb : Below w.heap.size w k24 := Dc.frame (w0 := w) (hb := hgr) (h := Dc.below HD.out BL9) (h0 := (BB9 hb)) (hB := by have := hb.size; first | omega | (simp; omega))
            replace HD := Lib.hid hd9
            clear hd9
            clear hgr
            clear HOP
            have KG := Lib.hid (dGet_head ⟨⟨#[65, 48]⟩, ⟨1, a1, ⟨#[]⟩⟩⟩ t)
            go_wp2_with fail
            refine (lget_is w.heap.size _ (⟨⟨#[65, 48]⟩, ⟨1, a1, ⟨#[]⟩⟩⟩ :: t) ⟨#[65, 48]⟩ 1 (a1) ⟨#[]⟩ true _ (Dc.below HD.out BL9) (by decide) KG.out).mono ?_
            rintro e k25 ⟨rfl, h⟩
            have hk : Below k24.heap.size k24 k25 := HK9 h
            have hz := h.size
            try simp at hz
            replace HD := Lib.hid (Dc.below HD.out hk)
            replace hb : Below w.heap.size w k25 := hb.trans (hk.mono hb.size)
            clear h hk
            go_wp2
            go_ret
            exact ⟨by first | rfl | simp, by first | exact hb | exact hb.alloc hb.size _⟩
          · have c0 : ¬ a1 + a2 < -4611686018427387904 := by omega
            have KA := Lib.hid (add_err (k := ⟨#[65, 48]⟩) (a := a1) (b := a2) (t := t) hk0 h3 h4 (.inr (farB_gt c3)))
            go_wp2_with fail
            refine calls_world (fun W => Ops W (k22.heap.size + 1) (.slice (some ⟨k22.heap.size, 0, none⟩) 1 1) [addO ⟨#[65, 48]⟩ a2] ∧ Below (k22.heap.size) k22 W ∧ k22.heap.size + 1 ≤ W.heap.size) ⟨(ops_new _ _ [addO ⟨#[65, 48]⟩ a2] (by simp)), BL9, LT9⟩ ?_
            rintro k23 ⟨hop, hk, hz⟩
            replace HD := Lib.hid (Dc.below HD.out hk)
            replace hb : Below w.heap.size w k23 := hb.trans (hk.mono (by first | exact hb.size | omega | (simp; omega)))
            clear hk
            have HOP := Lib.hid hop; clear hop
            refine (lapply_is w.heap.size _ _ _ (⟨⟨#[65, 48]⟩, ⟨1, a1, ⟨#[]⟩⟩⟩ :: t) (⟨⟨#[65, 48]⟩, ⟨1, a1, ⟨#[]⟩⟩⟩ :: t) _ 4 _ HD.out HOP.out (by omega) (fun o ho => by rw [List.mem_singleton.1 ho]; exact addO_ok (by decide) hn2) KA.out).mono ?_
            rintro e k24 ⟨rfl, hd9, hgr⟩
            have hz9 := hgr.size
            have hbe : Below k23.heap.size k23 _ := Below.refl _ _
            clear hbe
            try simp at hz9
            replace hb : Below w.heap.size w k24 := Dc.frame (w0 := w) (hb := hgr) (h := Dc.below HD.out BL9) (h0 := (BB9 hb)) (hB := by have := hb.size; first | omega | (simp; omega))
            replace HD := Lib.hid hd9
            clear hd9
            clear hgr
            clear HOP
            have KG := Lib.hid (dGet_head ⟨⟨#[65, 48]⟩, ⟨1, a1, ⟨#[]⟩⟩⟩ t)
            go_wp2_with fail
            refine (lget_is w.heap.size _ (⟨⟨#[65, 48]⟩, ⟨1, a1, ⟨#[]⟩⟩⟩ :: t) ⟨#[65, 48]⟩ 1 (a1) ⟨#[]⟩ true _ (Dc.below HD.out BL9) (by decide) KG.out).mono ?_
            rintro e k25 ⟨rfl, h⟩
            have hk : Below k24.heap.size k24 k25 := HK9 h
            have hz := h.size
            try simp at hz
            replace HD := Lib.hid (Dc.below HD.out hk)
            replace hb : Below w.heap.size w k25 := hb.trans (hk.mono hb.size)
            clear h hk
            go_wp2
            go_ret
            exact ⟨by first | rfl | simp, by first | exact hb | exact hb.alloc hb.size _⟩
          · have KA := Lib.hid (add_do (k := ⟨#[65, 48]⟩) (a := a1) (b := a2) (t := t) hgd3.srt hk0 h3 h4 (farB_no c1 c2) (farB_no c3 c4))
            have hr64 : -9223372036854775808 ≤ a1 + a2 ∧ a1 + a2 ≤ 9223372036854775807 := by omega
            go_wp2_with fail
            refine calls_world (fun W => Ops W (k22.heap.size + 1) (.slice (some ⟨k22.heap.size, 0, none⟩) 1 1) [addO ⟨#[65, 48]⟩ a2] ∧ Below (k22.heap.size) k22 W ∧ k22.heap.size + 1 ≤ W.heap.size) ⟨(ops_new _ _ [addO ⟨#[65, 48]⟩ a2] (by simp)), BL9, LT9⟩ ?_
            rintro k23 ⟨hop, hk, hz⟩
            replace HD := Lib.hid (Dc.below HD.out hk)
            replace hb : Below w.heap.size w k23 := hb.trans (hk.mono (by first | exact hb.size | omega | (simp; omega)))
            clear hk
            have HOP := Lib.hid hop; clear hop
            refine (lapply_is w.heap.size _ _ _ (⟨⟨#[65, 48]⟩, ⟨1, a1, ⟨#[]⟩⟩⟩ :: t) (⟨⟨#[65, 48]⟩, ⟨1, a1 + a2, ⟨#[]⟩⟩⟩ :: t) _ 0 _ HD.out HOP.out (by omega) (fun o ho => by rw [List.mem_singleton.1 ho]; exact addO_ok (by decide) hn2) KA.out).mono ?_
            rintro e k24 ⟨rfl, hd9, hgr⟩
            have hz9 := hgr.size
            have hbe : Below k23.heap.size k23 _ := Below.refl _ _
            clear hbe
            try simp at hz9
            replace hb : Below w.heap.size w k24 := Dc.frame (w0 := w) (hb := hgr) (h := Dc.below HD.out BL9) (h0 := (BB9 hb)) (hB := by have := hb.size; first | omega | (simp; omega))
            replace HD := Lib.hid hd9
            clear hd9
            clear hgr
            clear HOP
            have KG := Lib.hid (dGet_head ⟨⟨#[65, 48]⟩, ⟨1, a1 + a2, ⟨#[]⟩⟩⟩ t)
            go_wp2_with fail
            refine (lget_is w.heap.size _ (⟨⟨#[65, 48]⟩, ⟨1, a1 + a2, ⟨#[]⟩⟩⟩ :: t) ⟨#[65, 48]⟩ 1 (a1 + a2) ⟨#[]⟩ true _ (Dc.below HD.out BL9) (by decide) KG.out).mono ?_
            rintro e k25 ⟨rfl, h⟩
            have hk : Below k24.heap.size k24 k25 := HK9 h
            have hz := h.size
            try simp at hz
            replace HD := Lib.hid (Dc.below HD.out hk)
            replace hb : Below w.heap.size w k25 := hb.trans (hk.mono hb.size)
            clear h hk
            go_wp2
            go_ret
            exact ⟨by first | rfl | simp, by first | exact hb | exact hb.alloc hb.size _⟩
  · have hc : a0 < 0 ∨ (0 ≤ a0 ∧ 60 < a0) ∨ (0 ≤ a0 ∧ a0 ≤ 60 ∧ a2 < -1099511627776) ∨ (0 ≤ a0 ∧ a0 ≤ 60 ∧ -1099511627776 ≤ a2 ∧ 1099511627776 < a2) := by omega
    clear hin
    rcases hc with h1 | ⟨h1, h2⟩ | ⟨h1, h2, h3⟩ | ⟨h1, h2, h3, h4⟩
    all_goals
      go_wp2
      go_ret
      exact ⟨rfl, hb⟩

set_option maxRecDepth 100000 in
theorem lifted (os : Os) (started : os.Started) (H : Type) (enc : TypeId × Value → H) :
    ReturnsInHanded {} Try.checked os 6 .any (Rows.docEndsSpec.pre6 enc Try.prog Try.f6 Rows.docEndsRow.domain false) (Rows.docEndsSpec.post enc Try.prog Try.f6 false true false false) := by
  refine returnsInHanded_of_change (C := Try.checked) own started (by kernel_rfl) Try.func6
    (ChangeSpec.witness6 (enc := enc) (C := Try.checked) false ⟨#[], #[.int .i64 0, .int .i64 0, .int .i64 0], []⟩ 8 (by kernel_rfl) (by kernel_rfl) (by kernel_rfl) (by kernel_rfl)) ?_
  intro W base args ds gs before hval0 hW hcnd _
  have hval : ∀ (j : Nat) t v, Try.f6.params[j]? = some t → args[j]? = some v → Value.okWide Try.prog W .any base t v := hval0
  have hW' := hW
  obtain ⟨p, q, hA0, hV, rfl, hfz, hnd⟩ := hW
  have hA : DataW.TrodAll enc Try.prog W 0 (fun _ => true) true Try.f6.params.toList args.toList ds p := hA0
  have hA1 := hA
  rw [Try.params6] at hA hval
  obtain ⟨v0, vs0, d0, ds0, p0, q0, hargs, rfl, rfl, h0, r0⟩ := trodAll_cons hA
  obtain ⟨v1, vs1, d1, ds1, p1, q1, rfl, rfl, rfl, h1, r1⟩ := trodAll_cons r0
  obtain ⟨v2, vs2, d2, ds2, p2, q2, rfl, rfl, rfl, h2, r2⟩ := trodAll_cons r1
  obtain ⟨rfl, rfl, rfl⟩ := trodAll_nil r2
  obtain rfl : args = #[v0, v1, v2] := by cases args; simp_all
  obtain ⟨rfl, rfl⟩ := trodVars_none hV
  obtain ⟨a0, rfl, rfl, rfl, w0⟩ := open_int Try.underlying3 (hval 0 3 v0 rfl rfl) h0
  obtain ⟨a1, rfl, rfl, rfl, w1⟩ := open_int Try.underlying2 (hval 1 2 v1 rfl rfl) h1
  obtain ⟨a2, rfl, rfl, rfl, w2⟩ := open_int Try.underlying2 (hval 2 2 v2 rfl rfl) h2
  clear hA0 hval0
  simp only [List.append_nil] at hW'
  try simp only [List.append_nil] at hA1
  refine (walk W a0 w0 a1 w1 a2 w2).mono fun e W' ⟨he, hg⟩ => ?_
  subst he
  exact ⟨_, rfl, law_end Try.laidOut (by kernel_rfl) hW' hA1 hg rfl rfl rfl (trodAll_mk1 (shut_bool Try.underlying4 _))⟩

theorem over : Rows.docEndsRow.holds Try.pinned (OpenSpec.ofChange Rows.docEndsSpec) :=
  OpenClaim.holds_of_wide 6 Try.f6 rfl rfl rfl rfl rfl rfl rfl ⟨rfl, rfl, rfl, rfl, rfl⟩ rfl rfl rfl rfl rfl (by kernel_rfl) Try.func6 (by kernel_rfl)
    (of_decide_eq_true (by kernel_rfl)) (by unfold Func.isWrapper; first | (rw [if_pos (by decide +kernel)]; kernel_rfl) | (rw [if_neg (by decide +kernel)]; exact ⟨rfl, rfl⟩))
    (fun os started H enc _ => lifted os started H enc)

/-- the statement -/
theorem proved : Rows.DocEndsSaid := over
#print axioms proved
end Go.Proofs.Ytkgfbfopopmbhaa.docEnds
