/-
  The laws' begun answers true.
  There are no conditions.
-/
import Derived.Test.YtbdengcblncfmaaD9Kit
import Derived.Lib.SlBytesConst
set_option linter.unusedSimpArgs false
set_option linter.unusedVariables false
namespace Go.Proofs.Ytbdengcblncfmaa
open Go.RowKit
set_option maxRecDepth 100000

theorem safe_block {S : Nat → Prop} {w : World} {g2 : Nat} {C : Array Value} {t : TypeId} {fr : Nat × Nat} {bs : List UInt8} (h : w.heap[g2]? = some (.cells C t fr)) (hC : C = (Lib.byteCells bs).toArray) (hS : ¬ S g2) : Safe9 S w (.slice (some ⟨g2, 0, none⟩) bs.length bs.length) bs := fun w' ho => by
  have hlt := (Array.getElem?_eq_some_iff.1 h).1
  have hb := (ho.block g2 hlt hS).trans h
  refine ⟨_, _, rfl, Nat.le_refl _, fun _ => ⟨g2, 0, rfl, Nat.lt_of_lt_of_le hlt ho.size, fun k hk => ?_⟩⟩
  rw [cell_of_row w' g2 (0 + k) _ _ _ hb, hC, Nat.zero_add]
  simp [Lib.byteCells, hk]
/-- Append of bytes in a block that came behind the disk -/
theorem app_new {B g c g2 : Nat} {l : List Fil} {n : ByteArray} {C : Array Value} {t : TypeId} {fr : Nat × Nat} {bs : List UInt8} {w0 w : World} (h : DK B w0 g l c) (hb : Below w0.heap.size w0 w) (hB : B ≤ w0.heap.size) (hn : n.size ≤ maxLen) (hc : c ≤ 1000000) (hl : l.length ≤ 100000)
    (hu : w.heap[g2]? = some (.cells C t fr)) (hC : C = (Lib.byteCells bs).toArray) (hg2 : w0.heap.size ≤ g2) (hbl : bs.length ≤ 140737486258176) (r : Int × List Fil) (hr : app9 n bs l = r) :
    Calls Try.prog 14 #[.pointer (some ⟨g, 0, none⟩), .string n, .slice (some ⟨g2, 0, none⟩) bs.length bs.length] w fun e w' => e = .returned (.int .i64 r.1) ∧ DK B w' g r.2 (c + 1) ∧ Below B w w' := by
  subst hr
  obtain ⟨S, h1, h2⟩ := h
  refine (app9_disk S g l c n _ bs w (h1.below hb) hn hc hl (safe_block hu hC (fun hS => ?_)) hbl).mono ?_
  · have e1 := h1.lt g2 hS
    omega
  · intro e w' h
    exact did_dk h2 (Nat.le_trans hB hb.size) h
theorem a9_app : app9 ⟨#[97]⟩ [120, 121, 122] [] = (0, [⟨⟨#[97]⟩, [120, 121, 122], 0, false⟩]) := by rfl
theorem a9_loose : loose9 ⟨#[97]⟩ [⟨⟨#[97]⟩, [120, 121, 122], 0, false⟩] = 3 := by rfl
theorem a9_crash2 : crash9 2 [⟨⟨#[97]⟩, [120, 121, 122], 0, false⟩] = [⟨⟨#[97]⟩, [120, 121], 2, true⟩] := by rfl
theorem a9_crash0 : crash9 0 [⟨⟨#[97]⟩, [120, 121, 122], 0, false⟩] = [] := by rfl
theorem a9_sync : sync9 ⟨#[97]⟩ [⟨⟨#[97]⟩, [120, 121, 122], 0, false⟩] = (0, [⟨⟨#[97]⟩, [120, 121, 122], 3, true⟩]) := by rfl
theorem a9_loose2 : loose9 ⟨#[97]⟩ [⟨⟨#[97]⟩, [120, 121, 122], 3, true⟩] = 0 := by rfl
set_option maxHeartbeats 4000000 in
theorem begun9_any (w : World) : Calls Try.prog 10 #[] w fun e w' => e = .returned (.bool true) ∧ Below w.heap.size w w' := by
  have hml : ((⟨#[97]⟩ : ByteArray).size ≤ maxLen) := by decide
  have HML := Lib.hid hml; clear hml
  have kc := fun (w : World) (C : Array Value) (n c : Nat) => Lib.run_convert_bytes_const (P := Try.prog) w 30 5 C n c Try.underlying30 Try.underlying5
  go_enter Try.func10, Try.ntmps10
  go_wp2_with fail
  refine (new_dk w).mono ?_
  rintro e k1 ⟨rfl, hd1, hb1⟩
  have HD1 := Lib.hid hd1
  have HB1 := Lib.hid hb1
  clear hd1 hb1
  go_wp2_with fail
  refine (app_new (g := w.heap.size) (g2 := k1.heap.size) (bs := [120, 121, 122]) HD1.out (below_new k1 _) HB1.out.size HML.out (by omega) (Nat.zero_le _) (heap_alloc_new _ _) rfl (Nat.le_refl _) (by simp) _ a9_app).mono ?_
  rintro e k2 ⟨rfl, hd2, hb2⟩
  have HD2 := Lib.hid hd2
  have HB2 := Lib.hid ((HB1.out.alloc HB1.out.size _).trans hb2)
  clear hd2 hb2 HD1 HB1
  go_wp2_with fail
  refine (loose_dk HD2.out HML.out 3 a9_loose).mono ?_
  rintro e k3 ⟨rfl, hb3⟩
  have HD3 := Lib.hid (HD2.out.below hb3)
  have HB3 := Lib.hid (HB2.out.trans (hb3.mono HB2.out.size))
  clear hb3 HD2 HB2
  go_wp2_with fail
  refine (crash_dk HD3.out (by simp) (by omega) _ a9_crash2).mono ?_
  rintro e k4 ⟨rfl, hd4, hb4⟩
  have HD4 := Lib.hid (HD3.out.below hb4)
  have HC4 := Lib.hid hd4
  have HB4 := Lib.hid (HB3.out.trans (hb4.mono HB3.out.size))
  clear hd4 hb4 HD3 HB3
  go_wp2_with fail
  refine (read_dk HC4.out HML.out _ rfl).mono ?_
  rintro e k5 ⟨v5, rfl, hv5, hb5⟩
  have HD5 := Lib.hid (HD4.out.below hb5)
  have HB5 := Lib.hid (HB4.out.trans (hb5.mono HB4.out.size))
  have HV5 := Lib.hid hv5
  clear hv5 hb5 HD4 HB4 HC4
  go_wp2_with fail
  refine (crash_dk HD5.out (by simp) (by omega) _ a9_crash0).mono ?_
  rintro e k6 ⟨rfl, hd6, hb6⟩
  have HD6 := Lib.hid (HD5.out.below hb6)
  have HC6 := Lib.hid hd6
  have HB6 := Lib.hid (HB5.out.trans (hb6.mono HB5.out.size))
  have HV6 := Lib.hid (HV5.out.below hb6)
  clear hd6 hb6 HD5 HB5 HV5
  go_wp2_with fail
  refine (read_dk_no HC6.out HML.out rfl).mono ?_
  rintro e k7 ⟨rfl, hb7⟩
  have HD7 := Lib.hid (HD6.out.below hb7)
  have HB7 := Lib.hid (HB6.out.trans (hb7.mono HB6.out.size))
  have HV7 := HV6.out.below hb7
  have hcv := conv9 (S := ⟨#[120, 121]⟩) (Byt.of_own HV7) rfl
  clear hb7 HD6 HB6 HV6 HV7 HC6
  have hq : ((⟨#[120, 121]⟩ : ByteArray).toList == (⟨#[120, 121]⟩ : ByteArray).toList) = true := beq_self_eq_true _
  go_wp2_with fail
  refine (sync_dk HD7.out HB7.out.size HML.out (by omega) (by simp) _ a9_sync).mono ?_
  rintro e k8 ⟨rfl, hd8, hb8⟩
  have HD8 := Lib.hid hd8
  have HB8 := Lib.hid (HB7.out.trans hb8)
  clear hd8 hb8 HD7 HB7 hcv
  go_wp2_with fail
  refine (loose_dk HD8.out HML.out 0 a9_loose2).mono ?_
  rintro e k9 ⟨rfl, hb9⟩
  have HD9 := Lib.hid (HD8.out.below hb9)
  have HB9 := Lib.hid (HB8.out.trans (hb9.mono HB8.out.size))
  clear hb9 HD8 HB8
  go_wp2_with fail
  refine (calls_dk HD9.out).mono ?_
  rintro e k10 ⟨rfl, hb10⟩
  have HB10 := Lib.hid (HB9.out.trans (hb10.mono HB9.out.size))
  clear hb10 HD9 HB9
  go_wp2
  go_ret
  exact ⟨rfl, HB10.out⟩
end Go.Proofs.Ytbdengcblncfmaa
