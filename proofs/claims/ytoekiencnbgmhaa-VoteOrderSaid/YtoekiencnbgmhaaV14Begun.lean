/-
  The votes of three servers, at the beginning of stage 14's laws.
  There are no conditions.
-/
import Derived.Test.YtoekiencnbgmhaaV14Kit
namespace Go.Proofs.Ytoekiencnbgmhaa
open Go.RowKit Go.Deep
set_option maxRecDepth 100000

def s14a : Int → Int := take14 [1, 2, 3] (fun _ => 0) 1 1
def s14b : Int → Int := take14 [1, 2, 3] s14a 1 1
def s14c : Int → Int := take14 [1, 2, 3] s14b 2 2
def s14d : Int → Int := take14 [1, 2, 3] s14c 3 1
def s14e : Int → Int := take14 [1, 2, 3] s14d 9 1
set_option maxHeartbeats 1000000 in
theorem begun14_any (w : World) : Calls Try.prog 27 #[] w fun e w' => e = .returned (.bool true) ∧ Below w.heap.size w w' := by
  obtain ⟨k0, hk0⟩ : ∃ k, w.alloc (.cells #[.int .i64 1, .int .i64 2, .int .i64 3] 3) = k := ⟨_, rfl⟩
  have hb := below_at hk0
  have hi := ints_at [.int .i64 1, .int .i64 2, .int .i64 3] 3 [1, 2, 3] 3 rfl rfl hk0
  have HI := Lib.hid hi
  have HB0 := Lib.hid hb
  clear hi hb
  go_enter Try.func27, Try.ntmps27
  go_wp2_with fail
  refine (vnew_n (L := [1, 2, 3]) HI.out rfl (by decide) (M := [1, 2, 3]) (by decide +kernel)).mono ?_
  rintro e k1 ⟨g, v, rfl, hv, hb⟩
  have HB1 := Lib.hid (HB0.out.trans (hb.mono HB0.out.size))
  have HG := Lib.hid (Nat.le_trans HB0.out.size (Nat.le_refl _))
  have HV1 := Lib.hid hv
  clear hv hb
  go_wp2_with fail
  refine (vyes_n HV1.out 1 (b := true) (s' := s14a) (by decide +kernel) rfl).mono ?_
  rintro e k2 ⟨rfl, hv, _, hb⟩
  have HB2 := Lib.hid (HB1.out.trans (hb.mono HG.out))
  have HV2 := Lib.hid hv
  clear hv hb
  go_wp2_with fail
  refine (vyes_n HV2.out 1 (b := false) (s' := s14b) (by decide +kernel) rfl).mono ?_
  rintro e k3 ⟨rfl, hv, _, hb⟩
  have HB3 := Lib.hid (HB2.out.trans (hb.mono HG.out))
  have HV3 := Lib.hid hv
  clear hv hb
  go_wp2_with fail
  refine (vwon_n HV3.out (b := false) (by decide +kernel)).mono ?_
  rintro e k4 ⟨rfl, hv, hb⟩
  have HB4 := Lib.hid (HB3.out.trans (hb.mono HB3.out.size))
  have HV4 := Lib.hid hv
  clear hv hb
  go_wp2_with fail
  refine (vno_n HV4.out 2 (b := true) (s' := s14c) (by decide +kernel) rfl).mono ?_
  rintro e k5 ⟨rfl, hv, _, hb⟩
  have HB5 := Lib.hid (HB4.out.trans (hb.mono HG.out))
  have HV5 := Lib.hid hv
  clear hv hb
  go_wp2_with fail
  refine (vlost_n HV5.out (b := false) (by decide +kernel)).mono ?_
  rintro e k6 ⟨rfl, hv, hb⟩
  have HB6 := Lib.hid (HB5.out.trans (hb.mono HB5.out.size))
  have HV6 := Lib.hid hv
  clear hv hb
  go_wp2_with fail
  refine (vyes_n HV6.out 3 (b := true) (s' := s14d) (by decide +kernel) rfl).mono ?_
  rintro e k7 ⟨rfl, hv, _, hb⟩
  have HB7 := Lib.hid (HB6.out.trans (hb.mono HG.out))
  have HV7 := Lib.hid hv
  clear hv hb
  go_wp2_with fail
  refine (vwon_n HV7.out (b := true) (by decide +kernel)).mono ?_
  rintro e k8 ⟨rfl, hv, hb⟩
  have HB8 := Lib.hid (HB7.out.trans (hb.mono HB7.out.size))
  have HV8 := Lib.hid hv
  clear hv hb
  go_wp2_with fail
  refine (vyes_n HV8.out 9 (b := false) (s' := s14e) (by decide +kernel) rfl).mono ?_
  rintro e k9 ⟨rfl, hv, _, hb⟩
  have HB9 := Lib.hid (HB8.out.trans (hb.mono HG.out))
  have HV9 := Lib.hid hv
  clear hv hb
  go_wp2
  go_ret
  exact ⟨rfl, HB9.out⟩
end Go.Proofs.Ytoekiencnbgmhaa
