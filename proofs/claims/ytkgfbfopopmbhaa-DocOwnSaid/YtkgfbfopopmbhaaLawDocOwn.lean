/-
  What is handed in and told is nobody else's. There are no conditions.
-/
import Derived.Test.YtkgfbfopopmbhaaRows
import Derived.Test.YtkgfbfopopmbhaaL6Box
import Derived.Test.YtkgfbfopopmbhaaL4Tells
import Derived.Test.YtkgfbfopopmbhaaLawKit
import Derived.WalkKit
import Derived.ProofKit
import Derived.OpenShut
import Derived.ShutString
set_option linter.unusedSimpArgs false
set_option linter.unusedVariables false
namespace Go.Proofs.Ytkgfbfopopmbhaa.docOwn
open Go.ChangeShapes Go.WideShapes Go.ChangeAt Go.RowKit
open Go.ChangeMaps (open_string shut_string)
set_option linter.unusedVariables false

theorem own : ownKnob Try.prog.godebug = none := by kernel_rfl

set_option maxRecDepth 100000 in
set_option maxHeartbeats 8000000 in
theorem walk (w : World) (A0 : Option Addr) (c0 : Nat) (a0 : List Opn) (w0 : Ops w w.heap.size (.slice A0 a0.length c0) a0) (x0 : ∀ x ∈ a0, x.fit) :
    Calls Try.prog 11 #[.slice A0 a0.length c0] w fun e w' => e = .returned (.bool true) ∧ Below w.heap.size w w' := by
  have HA0 := Lib.hid w0; clear w0
  have HF0 := Lib.hid x0; clear x0
  have hb := Below.refl w.heap.size w
  go_enter Try.func11, Try.ntmps11
  go_wp2_with fail
  refine (begun6_any _).mono ?_
  rintro e k1 ⟨rfl, h⟩
  have hk : Below w.heap.size w k1 := HK9 h
  have hz := h.size
  try simp at hz
  replace hb : Below w.heap.size w k1 := hb.trans (hk.mono hb.size)
  clear h hk
  go_wp2_with fail
  refine (lcut_is w.heap.size w.heap.size _ a0 _ (HA0.out.keep (BB9 hb) (Nat.le_refl _)) (by have := hb.size; first | exact hb.size | omega | (simp; omega)) (by have := hb.size; first | exact hb.size | omega | (simp; omega)) HF0.out).mono ?_
  rintro e k2 ⟨Am, cm, m, rfl, ⟨ho9, hlm, hok9⟩, h⟩
  have hk : Below k1.heap.size k1 k2 := HK9 h
  have hz := h.size
  try simp at hz
  replace hb : Below w.heap.size w k2 := hb.trans (hk.mono hb.size)
  have HOm := Lib.hid ho9; clear ho9
  have HOKm := Lib.hid hok9; clear hok9
  clear h hk
  go_wp2_with fail
  refine (lnew_is w.heap.size _ (by have := hb.size; first | omega | exact Nat.le_refl _ | (simp; omega))).mono ?_
  rintro e k3 ⟨rfl, hd9, h⟩
  have hk : Below k2.heap.size k2 k3 := HK9 h
  have hz := h.size
  try simp at hz
  replace HOm := Lib.hid (ownsRow_below HOm.out hk)
  replace hb : Below w.heap.size w k3 := hb.trans (hk.mono hb.size)
  clear h hk
  have HD := Lib.hid hd9; clear hd9
  have hltHD : k2.heap.size < k3.heap.size := HD.out.lt
  obtain ⟨⟨r, e1⟩, hr⟩ : ∃ x, dApply [] m = x := ⟨_, rfl⟩
  have hgr9 : Gd r := by have := gd_nil.apply HOKm.out; rw [hr] at this; exact this
  have HR := Lib.hid hr; clear hr
  obtain ⟨L, hL⟩ : ∃ x, bytesD r = x := ⟨_, rfl⟩
  have hL1 := bytesD_pos r
  have hLs := bytesD_short hgr9
  rw [hL] at hL1 hLs
  have HL := Lib.hid hL; clear hL
  obtain ⟨S, hS⟩ : ∃ S : ByteArray, ⟨L.toArray⟩ = S := ⟨_, rfl⟩
  have HS := Lib.hid hS; clear hS
  obtain ⟨N, hN⟩ : ∃ N, r.length = N := ⟨_, rfl⟩
  have hN50 : N ≤ 50 := by rw [← hN]; exact hgr9.len
  have HN := Lib.hid hN; clear hN
  go_wp2_with fail
  refine (lapply_is w.heap.size _ _ _ [] r m e1 _ (Dc.below HD.out BL9) (Ops.of_own (ownsRow_below HOm.out BL9)) (Nat.le_refl _) HOKm.out HR.out).mono ?_
  rintro e k4 ⟨rfl, hd9, hgr⟩
  have hz9 := hgr.size
  have hbe : Below k3.heap.size k3 _ := Below.refl _ _
  clear hbe
  try simp at hz9
  replace hb : Below w.heap.size w k4 := Dc.frame (w0 := w) (hb := hgr) (h := Dc.below HD.out BL9) (h0 := (BB9 hb)) (hB := by have := hb.size; first | omega | (simp; omega))
  replace HOm := Lib.hid (ownsRow_grown (hb := hgr) (h := ownsRow_below HOm.out BL9) (hd := Dc.below HD.out BL9) (hne := by decide))
  replace HD := Lib.hid hd9
  clear hd9
  clear hgr
  go_wp2_with fail
  refine (lenc_is w.heap.size _ r L _ (Dc.below HD.out BL9) HL.out).mono ?_
  rintro e k5 ⟨gb, cb, rfl, hE, h⟩
  have hk : Below k4.heap.size k4 k5 := HK9 h
  have hz := h.size
  try simp at hz
  replace HOm := Lib.hid (ownsRow_below HOm.out hk)
  replace HD := Lib.hid (Dc.below HD.out hk)
  replace hb : Below w.heap.size w k5 := hb.trans (hk.mono hb.size)
  have HEL := Lib.hid hE; clear hE
  clear h hk
  have hcv := conv6 (Byt.of_own HEL.out) HS.out
  clear HEL
  go_wp2_with fail
  go_loopw [6] (fun i wr => ∃ (k : Nat) (xs : List Value), i = .int .i64 k ∧ k ≤ m.length ∧ wr.ownsRow w.heap.size 49 9 (.slice Am m.length cm) m.length (xs) ∧ Dc wr w.heap.size (k2.heap.size) r ∧ Below w.heap.size w wr) (fun i _ => m.length - (intOf i).toNat)
  case atStart => exact ⟨0, _, rfl, Nat.zero_le _, (ownsRow_below HOm.out BL9), (Dc.below HD.out BL9), (BB9 hb)⟩
  case round =>
    clear hb HOm HD
    obtain ⟨k, xs, rfl, hk, ho, hd, hb⟩ := hrel
    by_cases hkn : k < m.length
    · obtain ⟨A9, rfl⟩ := row_some ho (by omega)
      have hln := ho.1
      have hki : (k : Int) < (m.length : Int) := by omega
      have hc := ho.cellAt (k * 9 + 1) (by omega)
      obtain ⟨u9, hu⟩ : ∃ u, xs[k * 9 + 1]? = some u := ⟨_, List.getElem?_eq_getElem (by omega)⟩
      rw [hu] at hc
      have hst := (ho.stored (k * 9 + 1) (.string ⟨#[115, 112, 111, 105, 108, 116]⟩)).1
      have hf := ho.frozenAt (k * 9 + 1)
      have hd2 := row_doc (j := k * 9 + 1) (u := .string ⟨#[115, 112, 111, 105, 108, 116]⟩) hd ho (by decide) (by decide)
      have hga := (ho.lt A9 rfl).1
      have HST := Lib.hid hst
      have HD2 := Lib.hid hd2
      clear hst hd2 hln
      go_wp2
      go_roundw
      case rel => exact ⟨k + 1, _, by go_num, by omega, HST.out, HD2.out, hb.setCell hga _⟩
      case measure => simp [intOf]; omega
    · have hki : ¬ (k : Int) < (m.length : Int) := by omega
      have HD := Lib.hid hd; clear hd
      clear ho
      have hwr := hb.size
      go_wp2_with fail
      refine (lkeys_is w.heap.size _ N r _ (Dc.below HD.out BL9) HN.out).mono ?_
      rintro e k6 ⟨gk, rfl, hK, h⟩
      have hk : Below wr.heap.size wr k6 := HK9 h
      have hz := h.size
      try simp at hz
      replace HD := Lib.hid (Dc.below HD.out hk)
      replace hb : Below w.heap.size w k6 := hb.trans (hk.mono hb.size)
      have HK := Lib.hid (ownsRow_down (B := w.heap.size) hK (by first | omega | (simp; omega))); clear hK
      have hl9 : (r.map Par.k).length = N := by rw [List.length_map]; exact HN.out
      rw [hl9] at HK
      clear hl9
      clear h hk
      go_wp2_with fail
      go_loopw [8] (fun i wr => ∃ (k : Nat) (xs : List Value), i = .int .i64 k ∧ k ≤ N ∧ wr.ownsRow w.heap.size 9 1 (.slice (some ⟨gk, 0, none⟩) N N) N (xs) ∧ Dc wr w.heap.size (k2.heap.size) r ∧ Below w.heap.size w wr) (fun i _ => N - (intOf i).toNat)
      case atStart => exact ⟨0, _, rfl, Nat.zero_le _, (ownsRow_below HK.out BL9), (Dc.below HD.out BL9), (BB9 hb)⟩
      case round =>
        clear hb HK HD
        obtain ⟨k, xs, rfl, hk, ho, hd, hb⟩ := hrel
        by_cases hkn : k < N
        · have hln := ho.1
          have hki : (k : Int) < (N : Int) := by omega
          have hc := ho.cellAt (k) (by omega)
          obtain ⟨u9, hu⟩ : ∃ u, xs[k]? = some u := ⟨_, List.getElem?_eq_getElem (by omega)⟩
          rw [hu] at hc
          have hst := (ho.stored (k) (.string ⟨#[115, 112, 111, 105, 108, 116]⟩)).1
          have hf := ho.frozenAt (k)
          have hd2 := row_doc (j := k) (u := .string ⟨#[115, 112, 111, 105, 108, 116]⟩) hd ho (by decide) (by decide)
          have hga := (ho.lt gk rfl).1
          have HST := Lib.hid hst
          have HD2 := Lib.hid hd2
          clear hst hd2 hln
          go_wp2
          go_roundw
          case rel => exact ⟨k + 1, _, by go_num, by omega, HST.out, HD2.out, hb.setCell hga _⟩
          case measure => simp [intOf]; omega
        · have hki : ¬ (k : Int) < (N : Int) := by omega
          have HD := Lib.hid hd; clear hd
          clear ho
          have hwr2 := hb.size
          go_wp2_with fail
          refine (lenc_is w.heap.size _ r L _ (Dc.below HD.out BL9) HL.out).mono ?_
          rintro e k7 ⟨gc, cc, rfl, hE, h⟩
          have hk : Below wr.heap.size wr k7 := HK9 h
          have hz := h.size
          try simp at hz
          replace HD := Lib.hid (Dc.below HD.out hk)
          replace hb : Below w.heap.size w k7 := hb.trans (hk.mono hb.size)
          have HEL := Lib.hid (ownsRow_down (B := w.heap.size) hE (by first | omega | (simp; omega))); clear hE
          clear h hk
          go_wp2_with fail
          go_loopw [10] (fun i wr => ∃ (k : Nat) (xs : List Int), i = .int .i64 k ∧ k ≤ L.length ∧ wr.ownsRow w.heap.size 5 1 (.slice (some ⟨gc, 0, none⟩) L.length cc) L.length (xs.map (Value.int .u8)) ∧ Dc wr w.heap.size (k2.heap.size) r ∧ Below w.heap.size w wr) (fun i _ => L.length - (intOf i).toNat)
          case atStart => exact ⟨0, L.map (fun x => (x.toNat : Int)), rfl, Nat.zero_le _, (by have := (ownsRow_below HEL.out BL9); simpa [OwnB, Lib.byteCells, Function.comp_def] using this), (Dc.below HD.out BL9), (BB9 hb)⟩
          case round =>
            clear hb HEL HD
            obtain ⟨k, xs, rfl, hk, ho, hd, hb⟩ := hrel
            by_cases hkn : k < L.length
            · have hln := ho.1
              have hki : (k : Int) < (L.length : Int) := by omega
              have hc := ho.cellAt (k) (by omega)
              have hlx : k < xs.length := by simp at hln; omega
              have hu : (xs.map (Value.int .u8))[k]? = some (.int .u8 xs[k]) := by rw [List.getElem?_map, List.getElem?_eq_getElem hlx]; rfl
              rw [hu] at hc
              obtain ⟨z9, hz9⟩ : ∃ z, xs[k] = z := ⟨_, rfl⟩
              rw [hz9] at hc
              obtain ⟨y9, hy9⟩ : ∃ y, IntKind.u8.wrap (z9 + 1) = y := ⟨_, rfl⟩
              have hst := (ho.stored k (.int .u8 y9)).1
              rw [← List.map_set] at hst
              have hf := ho.frozenAt (k)
              have hd2 := row_doc (j := k) (u := .int .u8 y9) hd ho (by decide) (by decide)
              have hga := (ho.lt gc rfl).1
              have HST := Lib.hid hst
              have HD2 := Lib.hid hd2
              clear hst hd2 hln
              go_wp2
              go_roundw
              case rel => exact ⟨k + 1, _, by go_num, by omega, HST.out, HD2.out, hb.setCell hga _⟩
              case measure => simp [intOf]; omega
            · have hki : ¬ (k : Int) < (L.length : Int) := by omega
              have HD := Lib.hid hd; clear hd
              clear ho
              go_wp2_with fail
              refine (lenc_is w.heap.size _ r L _ (Dc.below HD.out BL9) HL.out).mono ?_
              rintro e k8 ⟨gd, cd, rfl, hE, h⟩
              have hk : Below wr.heap.size wr k8 := HK9 h
              have hz := h.size
              try simp at hz
              replace HD := Lib.hid (Dc.below HD.out hk)
              replace hb : Below w.heap.size w k8 := hb.trans (hk.mono hb.size)
              clear h hk
              have hcv2 := conv6 (Byt.of_own hE) HS.out
              clear hE
              go_wp2
              go_ret
              exact ⟨by first | rfl | simp, hb⟩

set_option maxRecDepth 100000 in
theorem lifted (os : Os) (started : os.Started) (H : Type) (enc : TypeId × Value → H) :
    ReturnsInHanded {} Try.checked os 11 .any (Rows.docOwnSpec.pre6 enc Try.prog Try.f11 Rows.docOwnRow.domain false) (Rows.docOwnSpec.post enc Try.prog Try.f11 false true false false) := by
  refine returnsInHanded_of_change (C := Try.checked) own started (by kernel_rfl) Try.func11
    (ChangeSpec.witness6 (enc := enc) (C := Try.checked) false ⟨#[], #[.slice none 0 0], []⟩ 8 (by kernel_rfl) (by kernel_rfl) (by kernel_rfl) (by kernel_rfl)) ?_
  intro W base args ds gs before hval0 hW hcnd _
  have hval : ∀ (j : Nat) t v, Try.f11.params[j]? = some t → args[j]? = some v → Value.okWide Try.prog W .any base t v := hval0
  have hW' := hW
  obtain ⟨p, q, hA0, hV, rfl, hfz, hnd⟩ := hW
  have hA : DataW.TrodAll enc Try.prog W 0 (fun _ => true) true Try.f11.params.toList args.toList ds p := hA0
  have hA1 := hA
  rw [Try.params11] at hA hval
  obtain ⟨v0, vs0, d0, ds0, p0, q0, hargs, rfl, rfl, h0, r0⟩ := trodAll_cons hA
  obtain ⟨rfl, rfl, rfl⟩ := trodAll_nil r0
  obtain rfl : args = #[v0] := by cases args; simp_all
  obtain ⟨rfl, rfl⟩ := trodVars_none hV
  obtain ⟨A0, c0, a0, rfl, w0, x0⟩ := open_opns (hval 0 29 v0 rfl rfl) h0
  clear hA0 hval0
  simp only [List.append_nil] at hW'
  try simp only [List.append_nil] at hA1
  refine (walk W A0 c0 a0 w0 x0).mono fun e W' ⟨he, hg⟩ => ?_
  subst he
  exact ⟨_, rfl, law_end Try.laidOut (by kernel_rfl) hW' hA1 hg rfl rfl rfl (trodAll_mk1 (shut_bool Try.underlying4 _))⟩

theorem over : Rows.docOwnRow.holds Try.pinned (OpenSpec.ofChange Rows.docOwnSpec) :=
  OpenClaim.holds_of_wide 11 Try.f11 rfl rfl rfl rfl rfl rfl rfl ⟨rfl, rfl, rfl, rfl, rfl⟩ rfl rfl rfl rfl rfl (by kernel_rfl) Try.func11 (by kernel_rfl)
    (of_decide_eq_true (by kernel_rfl)) (by unfold Func.isWrapper; first | (rw [if_pos (by decide +kernel)]; kernel_rfl) | (rw [if_neg (by decide +kernel)]; exact ⟨rfl, rfl⟩))
    (fun os started H enc _ => lifted os started H enc)

/-- the statement -/
theorem proved : Rows.DocOwnSaid := over
#print axioms proved
end Go.Proofs.Ytkgfbfopopmbhaa.docOwn
