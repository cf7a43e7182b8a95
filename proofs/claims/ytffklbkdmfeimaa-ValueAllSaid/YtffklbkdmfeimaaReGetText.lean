/-
  The reference's GetText reads a text behind its length as the plain function says, whatever the bytes.
  The bytes are there in memory, at most 1,000,000.
-/
import Derived.Test.YtffklbkdmfeimaaReGet
namespace Go.Proofs.Ytffklbkdmfeimaa
open Go.RowKit
set_option maxRecDepth 100000

def GotT (r : List UInt8 × Nat × Nat) (w : World) (e : Ending) (w' : World) : Prop := e = .returned (.tuple #[.string ⟨r.1.toArray⟩, .int .i64 r.2.1, .int .i64 r.2.2]) ∧ w = w'
theorem gotT {r : List UInt8 × Nat × Nat} {w : World} {s : ByteArray} {b c : Int} {l : List UInt8} {k e : Nat} (h : r = (l, k, e)) (hs : s = ⟨l.toArray⟩) (hb : b = k) (hc : c = e) : GotT r w (.returned (.tuple #[.string s, .int .i64 b, .int .i64 c])) w := ⟨by rw [h, hs, hb, hc], rfl⟩
theorem conv_part (w : World) (g o : Nat) (l : List UInt8) (k n cap : Nat) (hk : k + n ≤ l.length) (hcell : ∀ j (h : j < l.length), w.cell? ⟨g, o + j, Option.none⟩ = some (.int .u8 (l[j].toNat : Int))) :
    (convert 24 9 (.slice (some ⟨g, o + k, Option.none⟩) n cap)).run Try.prog w = .ok (.string ⟨((l.drop k).take n).toArray⟩) w := by
  have h := run_convert_bytes_arg (P := Try.prog) w 24 5 Try.underlying24 Try.underlying5 g (o + k) n cap (((l.drop k).take n).map fun x => (x.toNat : Int)) (by simp; omega) (fun i hi => by
    rw [Nat.add_assoc, hcell (k + i) (by omega)]
    simp [List.getD, hi, List.getElem?_drop, show k + i < l.length by omega]) 9 Try.underlying9
  rw [h]; congr 2; unfold strOfNums; rw [List.map_map]; congr 2
  conv => rhs; rw [← List.map_id ((l.drop k).take n)]
  apply List.map_congr_left; intro x _; simp
theorem conv_zero (w : World) (g o cap : Nat) :
    (convert 24 9 (.slice (some ⟨g, o, Option.none⟩) 0 cap)).run Try.prog w = .ok (.string ⟨#[]⟩) w :=
  run_convert_bytes_arg (P := Try.prog) w 24 5 Try.underlying24 Try.underlying5 g o 0 cap [] rfl (fun i hi => by omega) 9 Try.underlying9

theorem getT_of (l : List UInt8) : Nu.getT l = if (Nu.get l).2.2 ≠ 0 then ([], 0, (Nu.get l).2.2)
  else if (Nu.get l).1 < 0 ∨ 1048576 < (Nu.get l).1 then ([], 0, 1)
  else if (l.length : Int) - (Nu.get l).2.1 < (Nu.get l).1 then ([], 0, 2)
  else ((l.drop (Nu.get l).2.1).take (Nu.get l).1.toNat, (Nu.get l).2.1 + (Nu.get l).1.toNat, 0) := rfl
set_option maxRecDepth 100000 in
set_option maxHeartbeats 4000000 in
theorem rgetText_any (A : Option Addr) (c B : Nat) (l : List UInt8) (w : World) (h : Byt w B (.slice A l.length c) l) (hl : l.length ≤ 1000000) :
    Calls Try.prog 45 #[.slice A l.length c] w (GotT (Nu.getT l) w) := by
  have hget := rget_any A c B l w h hl
  obtain ⟨A', c', hv, hc, hcell⟩ := h
  injection hv with e1 _ e2; subst e1; subst e2
  have hlen := Nu.get_len l
  have hpos := Nu.get_pos l
  have hT := getT_of l
  obtain ⟨r, hr⟩ : ∃ r, Nu.get l = r := ⟨_, rfl⟩
  rw [hr] at hget hlen hpos hT
  obtain ⟨rn, rk, re⟩ := r
  simp only at hlen hpos hT
  have HG := Lib.hid hget; clear hget
  have HCELL := Lib.hid hcell; clear hcell
  clear hr
  by_cases he : re = 0
  · subst he
    have hk1 := hpos rfl
    clear hpos
    simp only [ne_eq, not_true_eq_false, if_false] at hT
    by_cases hn0 : rn < 0
    · have h2 : Nu.getT l = ([], 0, 1) := by rw [hT, if_pos (.inl hn0)]
      have H2 := Lib.hid h2; clear h2 hT
      go_enter Try.func45, Try.ntmps45
      go_wp2_with fail
      refine HG.out.mono ?_
      rintro e w' ⟨rfl, rfl⟩
      go_wp2
      go_ret3
      exact gotT H2.out rfl rfl rfl
    · by_cases hn1 : 1048576 < rn
      · have h2 : Nu.getT l = ([], 0, 1) := by rw [hT, if_pos (.inr hn1)]
        have H2 := Lib.hid h2; clear h2 hT
        go_enter Try.func45, Try.ntmps45
        go_wp2_with fail
        refine HG.out.mono ?_
        rintro e w' ⟨rfl, rfl⟩
        go_wp2
        go_ret3
        exact gotT H2.out rfl rfl rfl
      · rw [if_neg (by omega)] at hT
        by_cases hm : (l.length : Int) - rk < rn
        · have h2 : Nu.getT l = ([], 0, 2) := by rw [hT, if_pos hm]
          have H2 := Lib.hid h2; clear h2 hT
          go_enter Try.func45, Try.ntmps45
          go_wp2_with fail
          refine HG.out.mono ?_
          rintro e w' ⟨rfl, rfl⟩
          go_wp2
          go_ret3
          exact gotT H2.out rfl rfl rfl
        · obtain ⟨n, rfl⟩ := Int.eq_ofNat_of_zero_le (show 0 ≤ rn by omega)
          have h2 : Nu.getT l = ((l.drop rk).take n, rk + n, 0) := by rw [hT, if_neg hm]; rfl
          have H2 := Lib.hid h2; clear h2 hT
          obtain ⟨g, o, rfl, hg, hcs⟩ := HCELL.out (by omega)
          have hkn : rk + n ≤ l.length := by omega
          by_cases hcap : c = rk
          · obtain rfl : n = 0 := by omega
            have kc := conv_zero w g o
            have HC := Lib.hid hcap; clear hcap hcs HCELL
            go_enter Try.func45, Try.ntmps45
            go_wp2_with fail
            refine HG.out.mono ?_
            rintro e w' ⟨rfl, rfl⟩
            go_wp2
            go_ret3
            exact gotT H2.out (by simp) (by omega) rfl
          · have kc := fun cap => conv_part w g o l rk n cap hkn hcs
            clear hcs HCELL
            go_enter Try.func45, Try.ntmps45
            go_wp2_with fail
            refine HG.out.mono ?_
            rintro e w' ⟨rfl, rfl⟩
            go_wp2
            go_ret3
            exact gotT H2.out rfl (by omega) rfl
  · have h2 : Nu.getT l = ([], 0, re) := by rw [hT, if_pos he]
    have H2 := Lib.hid h2; clear h2 hT
    have hne : ((re : Int) != 0) = true := by rw [bne_iff_ne]; omega
    have HE := Lib.hid he; clear he
    go_enter Try.func45, Try.ntmps45
    go_wp2_with fail
    refine HG.out.mono ?_
    rintro e w' ⟨rfl, rfl⟩
    go_wp2
    go_ret3
    exact gotT H2.out rfl rfl rfl
end Go.Proofs.Ytffklbkdmfeimaa
