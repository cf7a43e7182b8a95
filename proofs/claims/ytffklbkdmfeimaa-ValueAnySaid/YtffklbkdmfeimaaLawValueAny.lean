/-
  Any bytes begin with a value, or not, as the reference tells it. There are no conditions.
-/
import Derived.Test.YtffklbkdmfeimaaRows
import Derived.Test.YtffklbkdmfeimaaL4Begun
import Derived.Test.YtffklbkdmfeimaaL4Cut
import Derived.Test.YtffklbkdmfeimaaVaPlain
import Derived.Test.YtffklbkdmfeimaaL4Tells
import Derived.Test.YtffklbkdmfeimaaLawKit
import Derived.WalkKit
import Derived.ProofKit
import Derived.OpenShut
import Derived.ShutString
namespace Go.Proofs.Ytffklbkdmfeimaa.valueAny
open Go.ChangeShapes Go.WideShapes Go.ChangeAt Go.RowKit
open Go.ChangeMaps (open_string shut_string)
set_option linter.unusedVariables false

theorem own : ownKnob Try.prog.godebug = none := by kernel_rfl

set_option maxRecDepth 100000 in
set_option maxHeartbeats 8000000 in
theorem walk (w : World) (A0 : Option Addr) (c0 : Nat) (a0 : List UInt8) (w0 : Byt w w.heap.size (.slice A0 a0.length c0) a0) (x0 : a0.length ≤ maxLen) (a1 : Raw) (w1 : a1.fits) (a2 : Int) (w2 : (Lit.int .i64 a2).wf = true) (a3 : Int) (w3 : (Lit.int .u8 a3).wf = true) :
    Calls Try.prog 5 #[.slice A0 a0.length c0, a1.val, .int .i64 a2, .int .u8 a3] w fun e w' => e = .returned (.bool true) ∧ Below w.heap.size w w' := by
  obtain ⟨rk, rn, rs⟩ := a1
  obtain ⟨⟨r0, r1⟩, ⟨r2, r3⟩, r4⟩ := w1
  simp only at r0 r1 r2 r3 r4
  obtain ⟨t, ht⟩ : ∃ t, cutS rs 220 = t := ⟨_, rfl⟩
  have htl : t.size ≤ 220 := by rw [← ht]; exact cutS_size _ _
  have HT := Lib.hid ht; clear ht
  have hn2 := wf_i64 w2
  have hn3 := bounds_u8 w3
  have hok : Raw.ok ⟨rk, rn, t⟩ := ⟨⟨r0, r1⟩, ⟨r2, r3⟩, (by show t.size ≤ 1000000; omega)⟩
  obtain ⟨L, hL⟩ : ∃ L, putR ⟨rk, rn, t⟩ = L := ⟨_, rfl⟩
  have hLn : 1 ≤ L.length := by rw [← hL]; exact putR_ne _
  have hLl : L.length ≤ 260 := by rw [← hL]; exact putR_len220 ⟨rk, rn, t⟩ htl
  have HL := Lib.hid hL; clear hL
  have HO := Lib.hid hok; clear hok
  have HR := Lib.hid w0; clear w0
  unfold Raw.val
  have hb := Below.refl w.heap.size w
  go_enter Try.func5, Try.ntmps5
  go_wp2_with fail
  refine (begun4_any _).mono ?_
  rintro e k1 ⟨rfl, h⟩
  have hk : Below w.heap.size w k1 := by
    refine Below.trans ?_ (h.mono (by first | (simp; done) | (simp; omega) | omega))
    repeat' (first | exact Below.refl _ _ | refine Below.alloc ?_ (by first | (simp; done) | (simp; omega) | omega) _ | refine Below.setCell ?_ (by first | (simp; done) | (simp; omega) | omega) _)
  have hz := h.size
  try simp at hz
  have rf0 : k1.frozen? ⟨w.heap.size, 0, none⟩ = false := (h.frozen (p := ⟨w.heap.size, 0, none⟩) (by first | (simp; done) | (simp; omega) | omega)).trans (by go_simp)
  have rf1 : k1.frozen? ⟨w.heap.size, 1, none⟩ = false := (h.frozen (p := ⟨w.heap.size, 1, none⟩) (by first | (simp; done) | (simp; omega) | omega)).trans (by go_simp)
  have rf2 : k1.frozen? ⟨w.heap.size, 2, none⟩ = false := (h.frozen (p := ⟨w.heap.size, 2, none⟩) (by first | (simp; done) | (simp; omega) | omega)).trans (by go_simp)
  have rc0 : k1.cell? ⟨w.heap.size, 0, none⟩ = some (.int .i64 rk) := (h.cell (p := ⟨w.heap.size, 0, none⟩) (by first | (simp; done) | (simp; omega) | omega)).trans (by go_simp)
  have rc1 : k1.cell? ⟨w.heap.size, 1, none⟩ = some (.int .i64 rn) := (h.cell (p := ⟨w.heap.size, 1, none⟩) (by first | (simp; done) | (simp; omega) | omega)).trans (by go_simp)
  have rc2 : k1.cell? ⟨w.heap.size, 2, none⟩ = some (.string rs) := (h.cell (p := ⟨w.heap.size, 2, none⟩) (by first | (simp; done) | (simp; omega) | omega)).trans (by go_simp)
  have : w.heap.size < k1.heap.size := by omega
  replace hb : Below w.heap.size w k1 := hb.trans (hk.mono hb.size)
  clear h hk
  go_wp2_with fail
  refine (short_any A0 a0.length c0 w.heap.size 60 a0 _ (HR.out.below hb (Nat.le_refl _)) (by decide)).mono ?_
  rintro e k ⟨A2, c2, rfl, hrest, rfl⟩
  obtain ⟨rest, hr⟩ : ∃ rest, a0.take 60 = rest := ⟨_, rfl⟩
  rw [hr] at hrest
  have hrl : rest.length ≤ 60 := by rw [← hr, List.length_take]; omega
  rw [hr]
  clear hr
  replace hrest := Lib.hid hrest
  go_wp2_with fail
  refine (tells4_any A2 rest.length c2 w.heap.size rest _ hrest.out hb.size (by omega)).mono ?_
  rintro e k2 ⟨rfl, h⟩
  have hk : Below k1.heap.size k1 k2 := by
    refine Below.trans ?_ (h.mono (by first | (simp; done) | (simp; omega) | omega))
    repeat' (first | exact Below.refl _ _ | refine Below.alloc ?_ (by first | (simp; done) | (simp; omega) | omega) _ | refine Below.setCell ?_ (by first | (simp; done) | (simp; omega) | omega) _)
  replace rf0 : k2.frozen? ⟨w.heap.size, 0, none⟩ = false := (hk.frozen (p := ⟨w.heap.size, 0, none⟩) (by first | (simp; done) | (simp; omega) | omega)).trans rf0
  replace rf1 : k2.frozen? ⟨w.heap.size, 1, none⟩ = false := (hk.frozen (p := ⟨w.heap.size, 1, none⟩) (by first | (simp; done) | (simp; omega) | omega)).trans rf1
  replace rf2 : k2.frozen? ⟨w.heap.size, 2, none⟩ = false := (hk.frozen (p := ⟨w.heap.size, 2, none⟩) (by first | (simp; done) | (simp; omega) | omega)).trans rf2
  replace rc0 : k2.cell? ⟨w.heap.size, 0, none⟩ = some (.int .i64 rk) := (hk.cell (p := ⟨w.heap.size, 0, none⟩) (by first | (simp; done) | (simp; omega) | omega)).trans rc0
  replace rc1 : k2.cell? ⟨w.heap.size, 1, none⟩ = some (.int .i64 rn) := (hk.cell (p := ⟨w.heap.size, 1, none⟩) (by first | (simp; done) | (simp; omega) | omega)).trans rc1
  replace rc2 : k2.cell? ⟨w.heap.size, 2, none⟩ = some (.string rs) := (hk.cell (p := ⟨w.heap.size, 2, none⟩) (by first | (simp; done) | (simp; omega) | omega)).trans rc2
  have hz := h.size
  try simp at hz
  have : w.heap.size < k2.heap.size := by omega
  replace hb : Below w.heap.size w k2 := hb.trans (hk.mono hb.size)
  clear h hk
  go_wp2_with fail
  refine (l4cut_to _ rk rn rs t _ rfl HT.out).mono ?_
  rintro e k3 ⟨rfl, h⟩
  have hk : Below k2.heap.size k2 k3 := by
    refine Below.trans ?_ (h.mono (by first | (simp; done) | (simp; omega) | omega))
    repeat' (first | exact Below.refl _ _ | refine Below.alloc ?_ (by first | (simp; done) | (simp; omega) | omega) _ | refine Below.setCell ?_ (by first | (simp; done) | (simp; omega) | omega) _)
  replace rf0 : k3.frozen? ⟨w.heap.size, 0, none⟩ = false := (hk.frozen (p := ⟨w.heap.size, 0, none⟩) (by first | (simp; done) | (simp; omega) | omega)).trans rf0
  replace rf1 : k3.frozen? ⟨w.heap.size, 1, none⟩ = false := (hk.frozen (p := ⟨w.heap.size, 1, none⟩) (by first | (simp; done) | (simp; omega) | omega)).trans rf1
  replace rf2 : k3.frozen? ⟨w.heap.size, 2, none⟩ = false := (hk.frozen (p := ⟨w.heap.size, 2, none⟩) (by first | (simp; done) | (simp; omega) | omega)).trans rf2
  replace rc0 : k3.cell? ⟨w.heap.size, 0, none⟩ = some (.int .i64 rk) := (hk.cell (p := ⟨w.heap.size, 0, none⟩) (by first | (simp; done) | (simp; omega) | omega)).trans rc0
  replace rc1 : k3.cell? ⟨w.heap.size, 1, none⟩ = some (.int .i64 rn) := (hk.cell (p := ⟨w.heap.size, 1, none⟩) (by first | (simp; done) | (simp; omega) | omega)).trans rc1
  replace rc2 : k3.cell? ⟨w.heap.size, 2, none⟩ = some (.string rs) := (hk.cell (p := ⟨w.heap.size, 2, none⟩) (by first | (simp; done) | (simp; omega) | omega)).trans rc2
  have hz := h.size
  try simp at hz
  have : w.heap.size < k3.heap.size := by omega
  replace hb : Below w.heap.size w k3 := hb.trans (hk.mono hb.size)
  clear h hk
  go_wp2_with fail
  refine (rputRaw_own _ ⟨rk, rn, t⟩ L _ rfl HO.out HL.out).mono ?_
  rintro e k4 ⟨g, cg, rfl, hown, h⟩
  have hk : Below k3.heap.size k3 k4 := by
    refine Below.trans ?_ (h.mono (by first | (simp; done) | (simp; omega) | omega))
    repeat' (first | exact Below.refl _ _ | refine Below.alloc ?_ (by first | (simp; done) | (simp; omega) | omega) _ | refine Below.setCell ?_ (by first | (simp; done) | (simp; omega) | omega) _)
  replace rf0 : k4.frozen? ⟨w.heap.size, 0, none⟩ = false := (hk.frozen (p := ⟨w.heap.size, 0, none⟩) (by first | (simp; done) | (simp; omega) | omega)).trans rf0
  replace rf1 : k4.frozen? ⟨w.heap.size, 1, none⟩ = false := (hk.frozen (p := ⟨w.heap.size, 1, none⟩) (by first | (simp; done) | (simp; omega) | omega)).trans rf1
  replace rf2 : k4.frozen? ⟨w.heap.size, 2, none⟩ = false := (hk.frozen (p := ⟨w.heap.size, 2, none⟩) (by first | (simp; done) | (simp; omega) | omega)).trans rf2
  replace rc0 : k4.cell? ⟨w.heap.size, 0, none⟩ = some (.int .i64 rk) := (hk.cell (p := ⟨w.heap.size, 0, none⟩) (by first | (simp; done) | (simp; omega) | omega)).trans rc0
  replace rc1 : k4.cell? ⟨w.heap.size, 1, none⟩ = some (.int .i64 rn) := (hk.cell (p := ⟨w.heap.size, 1, none⟩) (by first | (simp; done) | (simp; omega) | omega)).trans rc1
  replace rc2 : k4.cell? ⟨w.heap.size, 2, none⟩ = some (.string rs) := (hk.cell (p := ⟨w.heap.size, 2, none⟩) (by first | (simp; done) | (simp; omega) | omega)).trans rc2
  have hz := h.size
  try simp at hz
  have : w.heap.size < k4.heap.size := by omega
  replace hb : Below w.heap.size w k4 := hb.trans (hk.mono hb.size)
  clear h hk
  have hgB : k3.heap.size ≤ g := (hown.lt g rfl).1
  by_cases hat : 0 ≤ a2
  · obtain ⟨i, hi, hil⟩ := rem_nat a2 L.length hat hLn
    have hc := hown.cellAt i hil
    have hf := hown.frozenAt i
    obtain ⟨z, hz⟩ : ∃ z, L[i] = z := ⟨_, rfl⟩
    rw [hz] at hc
    have hzb := z.toNat_lt
    obtain ⟨y, hy⟩ : ∃ y, bits BinOp.xor .u8 (z.toNat : Int) a3 = y := ⟨_, rfl⟩
    have hy2 := xor_u8 (z.toNat : Int) a3
    rw [hy] at hy2
    have hset := hown.setAt i hil y hy2.1 hy2.2
    have hne : ((L.length : Int) == 0) = false := by rw [beq_eq_false_iff_ne]; omega
    have HS := Lib.hid hset; clear hset hown
    go_wp2_with fail
    refine (tells4_any _ _ _ _ (L.set i (UInt8.ofNat y.toNat)) _ (Byt.of_own HS.out) (Nat.le_refl _) (by rw [List.length_set]; omega)).mono ?_
    rintro e k5 ⟨rfl, h⟩
    have hb5 : Below w.heap.size w k5 := (hb.setCell (show w.heap.size ≤ g by omega) _).trans (h.mono (by have := hb.size; simp; omega))
    go_wp2
    go_ret
    exact ⟨rfl, hb5⟩
  · go_wp2_with fail
    refine (tells4_any _ _ _ _ L _ (Byt.of_own hown) (Nat.le_refl _) (by omega)).mono ?_
    rintro e k5 ⟨rfl, h⟩
    have hb5 : Below w.heap.size w k5 := hb.trans (h.mono hb.size)
    go_wp2
    go_ret
    exact ⟨rfl, hb5⟩

set_option maxRecDepth 100000 in
theorem lifted (os : Os) (started : os.Started) (H : Type) (enc : TypeId × Value → H) :
    ReturnsInHanded {} Try.checked os 5 .any (Rows.valueAnySpec.pre6 enc Try.prog Try.f5 Rows.valueAnyRow.domain false) (Rows.valueAnySpec.post enc Try.prog Try.f5 false true false false) := by
  refine returnsInHanded_of_change (C := Try.checked) own started (by kernel_rfl) Try.func5
    (ChangeSpec.witness6 (enc := enc) (C := Try.checked) false ⟨#[], #[.slice none 0 0, .agg #[.int .i64 0, .int .i64 0, .string ByteArray.empty], .int .i64 0, .int .u8 0], []⟩ 8 (by kernel_rfl) (by kernel_rfl) (by kernel_rfl) (by kernel_rfl)) ?_
  intro W base args ds gs before hval0 hW hcnd _
  have hval : ∀ (j : Nat) t v, Try.f5.params[j]? = some t → args[j]? = some v → Value.okWide Try.prog W .any base t v := hval0
  have hW' := hW
  obtain ⟨p, q, hA0, hV, rfl, hfz, hnd⟩ := hW
  have hA : DataW.TrodAll enc Try.prog W 0 (fun _ => true) true Try.f5.params.toList args.toList ds p := hA0
  have hA1 := hA
  rw [Try.params5] at hA hval
  obtain ⟨v0, vs0, d0, ds0, p0, q0, hargs, rfl, rfl, h0, r0⟩ := trodAll_cons hA
  obtain ⟨v1, vs1, d1, ds1, p1, q1, rfl, rfl, rfl, h1, r1⟩ := trodAll_cons r0
  obtain ⟨v2, vs2, d2, ds2, p2, q2, rfl, rfl, rfl, h2, r2⟩ := trodAll_cons r1
  obtain ⟨v3, vs3, d3, ds3, p3, q3, rfl, rfl, rfl, h3, r3⟩ := trodAll_cons r2
  obtain ⟨rfl, rfl, rfl⟩ := trodAll_nil r3
  obtain rfl : args = #[v0, v1, v2, v3] := by cases args; simp_all
  obtain ⟨rfl, rfl⟩ := trodVars_none hV
  obtain ⟨A0, c0, a0, rfl, w0, x0⟩ := open_bytes (hval 0 24 v0 rfl rfl) h0
  obtain ⟨a1, rfl, w1⟩ := open_raw (hval 1 23 v1 rfl rfl) h1
  obtain ⟨a2, rfl, rfl, rfl, w2⟩ := open_int Try.underlying3 (hval 2 3 v2 rfl rfl) h2
  obtain ⟨a3, rfl, rfl, rfl, w3⟩ := open_int Try.underlying5 (hval 3 5 v3 rfl rfl) h3
  clear hA0 hval0
  simp only [List.append_nil] at hW'
  try simp only [List.append_nil] at hA1
  refine (walk W A0 c0 a0 w0 x0 a1 w1 a2 w2 a3 w3).mono fun e W' ⟨he, hg⟩ => ?_
  subst he
  exact ⟨_, rfl, law_end Try.laidOut (by kernel_rfl) hW' hA1 hg rfl rfl rfl (trodAll_mk1 (shut_bool Try.underlying4 _))⟩

theorem over : Rows.valueAnyRow.holds Try.pinned (OpenSpec.ofChange Rows.valueAnySpec) :=
  OpenClaim.holds_of_wide 5 Try.f5 rfl rfl rfl rfl rfl rfl rfl ⟨rfl, rfl, rfl, rfl, rfl⟩ rfl rfl rfl rfl rfl (by kernel_rfl) Try.func5 (by kernel_rfl)
    (of_decide_eq_true (by kernel_rfl)) (by unfold Func.isWrapper; first | (rw [if_pos (by decide +kernel)]; kernel_rfl) | (rw [if_neg (by decide +kernel)]; exact ⟨rfl, rfl⟩))
    (fun os started H enc _ => lifted os started H enc)

/-- the statement -/
theorem proved : Rows.ValueAnySaid := over
#print axioms proved
end Go.Proofs.Ytffklbkdmfeimaa.valueAny
