/-
  Package num's GetText reads a text behind its length as the plain function says, whatever the bytes.
  The bytes are there in memory, at most 1,000,000.
-/
import Derived.Test.YtdhppekfehbngaaNuGet
import Derived.Test.YtdhppekfehbngaaRePut
set_option linter.unusedSimpArgs false
set_option linter.unusedVariables false
namespace Go.Proofs.Ytdhppekfehbngaa
open Go.RowKit
set_option maxRecDepth 100000

set_option maxRecDepth 100000 in
set_option maxHeartbeats 4000000 in
theorem ngetText_any (A : Option Addr) (c B : Nat) (l : List UInt8) (w : World) (h : Byt w B (.slice A l.length c) l) (hl : l.length ≤ 1000000) :
    Calls Try.prog 61 #[.slice A l.length c] w (GotT (Nu.getT l) w) := by
  have hget := nget_any A c B l w h hl
  obtain ⟨A', c', hv, hc, hcell⟩ := h
  injection hv with e1 _ e2; subst e1; subst e2
  have hlen := Nu.get_len l
  have hpos := Nu.get_pos l
  have hT := getT_of l
  obtain ⟨r, hr⟩ : ∃ r, Nu.get l = r := ⟨_, rfl⟩
  rw [hr] at hget hlen hpos hT
  obtain ⟨rn, rk, re⟩ := r
  simp only at hlen hpos hT
  have HG := Lib.hid hget; clear hget
  have HCELL := Lib.hid hcell; clear hcell
  clear hr
  by_cases he : re = 0
  · subst he
    have hk1 := hpos rfl
    clear hpos
    simp only [ne_eq, not_true_eq_false, if_false] at hT
    by_cases hn0 : rn < 0
    · have h2 : Nu.getT l = ([], 0, 1) := by rw [hT, if_pos (.inl hn0)]
      have H2 := Lib.hid h2; clear h2 hT
      go_enter Try.func61, Try.ntmps61
      go_wp2_with fail
      refine HG.out.mono ?_
      rintro e w' ⟨rfl, rfl⟩
      go_wp2
      go_ret3
      exact gotT H2.out rfl rfl rfl
    · by_cases hn1 : 1048576 < rn
      · have h2 : Nu.getT l = ([], 0, 1) := by rw [hT, if_pos (.inr hn1)]
        have H2 := Lib.hid h2; clear h2 hT
        go_enter Try.func61, Try.ntmps61
        go_wp2_with fail
        refine HG.out.mono ?_
        rintro e w' ⟨rfl, rfl⟩
        go_wp2
        go_ret3
        exact gotT H2.out rfl rfl rfl
      · rw [if_neg (by omega)] at hT
        by_cases hm : (l.length : Int) - rk < rn
        · have h2 : Nu.getT l = ([], 0, 2) := by rw [hT, if_pos hm]
          have H2 := Lib.hid h2; clear h2 hT
          go_enter Try.func61, Try.ntmps61
          go_wp2_with fail
          refine HG.out.mono ?_
          rintro e w' ⟨rfl, rfl⟩
          go_wp2
          go_ret3
          exact gotT H2.out rfl rfl rfl
        · obtain ⟨n, rfl⟩ := Int.eq_ofNat_of_zero_le (show 0 ≤ rn by omega)
          have h2 : Nu.getT l = ((l.drop rk).take n, rk + n, 0) := by rw [hT, if_neg hm]; rfl
          have H2 := Lib.hid h2; clear h2 hT
          obtain ⟨g, o, rfl, hg, hcs⟩ := HCELL.out (by omega)
          have hkn : rk + n ≤ l.length := by omega
          by_cases hcap : c = rk
          · obtain rfl : n = 0 := by omega
            have kc := conv_zero w g o
            have HC := Lib.hid hcap; clear hcap hcs HCELL
            go_enter Try.func61, Try.ntmps61
            go_wp2_with fail
            refine HG.out.mono ?_
            rintro e w' ⟨rfl, rfl⟩
            go_wp2
            go_ret3
            exact gotT H2.out (by simp) (by omega) rfl
          · have kc := fun cap => conv_part w g o l rk n cap hkn hcs
            clear hcs HCELL
            go_enter Try.func61, Try.ntmps61
            go_wp2_with fail
            refine HG.out.mono ?_
            rintro e w' ⟨rfl, rfl⟩
            go_wp2
            go_ret3
            exact gotT H2.out rfl (by omega) rfl
  · have h2 : Nu.getT l = ([], 0, re) := by rw [hT, if_pos he]
    have H2 := Lib.hid h2; clear h2 hT
    have hne : ((re : Int) != 0) = true := by rw [bne_iff_ne]; omega
    have HE := Lib.hid he; clear he
    go_enter Try.func61, Try.ntmps61
    go_wp2_with fail
    refine HG.out.mono ?_
    rintro e w' ⟨rfl, rfl⟩
    go_wp2
    go_ret3
    exact gotT H2.out rfl rfl rfl
end Go.Proofs.Ytdhppekfehbngaa
