/-
  A batch's bytes that are cut off, or longer, are no batch's. There are no conditions.
-/
import Derived.Test.YtdhppekfehbngaaRows
import Derived.Test.YtdhppekfehbngaaL5Begun
import Derived.Test.YtdhppekfehbngaaL5CutBatch
import Derived.Test.YtdhppekfehbngaaL5Open
import Derived.Test.YtdhppekfehbngaaLawKit
import Derived.WalkKit
import Derived.ProofKit
import Derived.OpenShut
import Derived.ShutString
set_option linter.unusedSimpArgs false
set_option linter.unusedVariables false
namespace Go.Proofs.Ytdhppekfehbngaa.batchCut
open Go.ChangeShapes Go.WideShapes Go.ChangeAt Go.RowKit
open Go.ChangeMaps (open_string shut_string)
set_option linter.unusedVariables false

theorem own : ownKnob Try.prog.godebug = none := by kernel_rfl
theorem fit_ints {o : Opn} (h : o.fit) : o.ints := ⟨h.1, h.2.2.2.2, h.2.2.1.1, h.2.2.1.2.1, h.2.2.2.1.1, h.2.2.2.1.2.1⟩
theorem byt_take {w : World} {B n c : Nat} {A : Option Addr} {l : List UInt8} (h : Byt w B (.slice A l.length c) l) (hn : n ≤ l.length) : Byt w B (.slice A n c) (l.take n) := by
  obtain ⟨A', c', hv, hc, hcell⟩ := h
  injection hv with e1 _ e2; subst e1; subst e2
  have e : (l.take n).length = n := by rw [List.length_take]; omega
  refine ⟨A, c, by rw [e], by rw [e]; omega, fun h0 => ?_⟩
  rw [e] at h0
  obtain ⟨g, o, rfl, hg, hcs⟩ := hcell (by omega)
  refine ⟨g, o, rfl, hg, fun k hk => ?_⟩
  rw [e] at hk
  rw [hcs k (by omega)]; simp
theorem enc_may {b : Bat} (h : mayB b = true) : encB b = bytesB b ∧ 1 ≤ (encB b).length ∧ (encB b).length ≤ 1200 := by
  have he : encB b = bytesB b := by unfold encB; rw [h]; rfl
  refine ⟨he, ?_, ?_⟩
  · rw [he]; unfold bytesB; have := Nu.put_ne b.client; simp only [List.length_append]; omega
  · rw [mayB_parts, Bool.and_eq_true, decide_eq_true_eq] at h; rw [he]; exact h.2
theorem enc_none {b : Bat} (h : mayB b = false) : encB b = [] := by unfold encB; rw [h]; rfl
theorem dec_less {b : Bat} (h : mayB b = true) (hok : b.ok) (n : Nat) (hn : n < (encB b).length) : decR ((encB b).take n) = (⟨0, 0, []⟩, 1) := by
  have hm := enc_may h
  apply decR_no
  cases ho : okB ((encB b).take n) with
  | false => rfl
  | true =>
    exfalso
    unfold okB at ho
    rw [Bool.and_eq_true, beq_iff_eq] at ho
    have hd := rBat_ok ((encB b).take n) (by rw [List.length_take]; omega)
    have h2 : bytesB (rBat ((encB b).take n)).1 ++ (encB b).drop n = bytesB b ++ [] := by rw [ho.2, List.take_append_drop, hm.1, List.append_nil]
    have h3 := (bytesB_inj ho.1 h hd hok h2).2
    have := congrArg List.length h3
    rw [List.length_drop] at this; simp at this; omega
theorem dec_more {b : Bat} (h : mayB b = true) (hok : b.ok) (x : UInt8) : decR (encB b ++ [x]) = (⟨0, 0, []⟩, 1) := by
  have hm := enc_may h
  apply decR_no
  cases ho : okB (encB b ++ [x]) with
  | false => rfl
  | true =>
    exfalso
    unfold okB at ho
    rw [Bool.and_eq_true, beq_iff_eq] at ho
    have hd := rBat_ok (encB b ++ [x]) (by rw [List.length_append]; simp; omega)
    have h2 : bytesB (rBat (encB b ++ [x])).1 ++ [] = bytesB b ++ [x] := by rw [ho.2, hm.1, List.append_nil]
    have h3 := (bytesB_inj ho.1 h hd hok h2).2
    cases h3
theorem cut_bat {c q : Int} {m : List Opn} (h1 : I64 c) (h2 : I64 q) (h : ∀ x ∈ m, x.ok) : (Bat.mk c q m).ok := ⟨h1, h2, h⟩

set_option maxRecDepth 100000 in
set_option maxHeartbeats 1000000 in
theorem walk (w : World) (a0 : Bat) (A0 : Option Addr) (c0 : Nat) (w0 : Ops w w.heap.size (.slice A0 a0.ops.length c0) a0.ops) (x0 : a0.fit) (a1 : Int) (w1 : (Lit.int .i64 a1).wf = true) (A2 : Option Addr) (c2 : Nat) (a2 : List UInt8) (w2 : Byt w w.heap.size (.slice A2 a2.length c2) a2) (x2 : a2.length ≤ maxLen) :
    Calls Try.prog 8 #[.agg #[.int .i64 a0.client, .int .i64 a0.seq, .slice A0 a0.ops.length c0], .int .i64 a1, .slice A2 a2.length c2] w fun e w' => e = .returned (.bool true) ∧ Below w.heap.size w w' := by
  obtain ⟨bc, bq, bl⟩ := a0
  obtain ⟨bf1, bf2, bf3⟩ := x0
  simp only at bf1 bf2 bf3 w0
  have Hb := Lib.hid w0; clear w0
  have HIb := Lib.hid (fun z hz => fit_ints (bf3 z hz)); clear bf3
  have hn1 := wf_i64 w1
  have hb := Below.refl w.heap.size w
  go_enter Try.func8, Try.ntmps8
  go_wp2_with fail
  refine (begun5_any _).mono ?_
  rintro e k1 ⟨rfl, h⟩
  have hk : Below w.heap.size w k1 := by
    refine Below.trans ?_ (h.mono (by first | (simp; done) | (simp; omega) | omega))
    repeat' (first | with_reducible exact Below.refl _ _ | (with_reducible refine Below.alloc ?_ ?_ _) | (with_reducible refine Below.setCell ?_ ?_ _) | exact (by first | (simp; done) | (simp; omega) | omega))
  have hz := h.size
  try simp at hz
  have p0 : k1.cell? ⟨w.heap.size, 0, none⟩ = some (.int .i64 bc) := (h.cell (p := ⟨w.heap.size, 0, none⟩) (by first | (simp; done) | (simp; omega) | omega)).trans (by go_simp)
  have p1 : k1.cell? ⟨w.heap.size, 1, none⟩ = some (.int .i64 bq) := (h.cell (p := ⟨w.heap.size, 1, none⟩) (by first | (simp; done) | (simp; omega) | omega)).trans (by go_simp)
  have p2 : k1.cell? ⟨w.heap.size, 2, none⟩ = some (.slice A0 bl.length c0) := (h.cell (p := ⟨w.heap.size, 2, none⟩) (by first | (simp; done) | (simp; omega) | omega)).trans (by go_simp)
  replace hb : Below w.heap.size w k1 := hb.trans (hk.mono hb.size)
  have lt0 : w.heap.size < k1.heap.size := (by first | (simp; done) | (simp; omega) | omega)
  clear h hk
  go_wp2_with fail
  refine (l5cutBatch_any w.heap.size _ ⟨bc, bq, bl⟩ _ ⟨_, rfl, Hb.out.keep hb (Nat.le_refl _)⟩ hb.size HIb.out).mono ?_
  rintro e k2 ⟨u, m, rfl, hO, h, hml, hoks⟩
  obtain ⟨Am, cm, rfl⟩ := own_slice hO
  have HOm := Lib.hid hO; clear hO
  have hok := cut_bat bf1 bf2 hoks
  have HOKm := Lib.hid hok; clear hok hoks
  have hlm : m.length ≤ 10 := by omega
  have hk := h
  have hz := hk.size
  replace p0 := (hk.cell (p := ⟨w.heap.size, 0, none⟩) (by first | (simp; done) | (simp; omega) | omega)).trans p0
  replace p1 := (hk.cell (p := ⟨w.heap.size, 1, none⟩) (by first | (simp; done) | (simp; omega) | omega)).trans p1
  replace p2 := (hk.cell (p := ⟨w.heap.size, 2, none⟩) (by first | (simp; done) | (simp; omega) | omega)).trans p2
  replace hb : Below w.heap.size w k2 := hb.trans (hk.mono hb.size)
  clear h hk hml
  have lt0 : w.heap.size < k2.heap.size := (by first | (simp; done) | (simp; omega) | omega)
  go_wp2_with fail
  refine (oenc_any _ _ ⟨bc, bq, m⟩ _ ⟨_, rfl, Ops.of_own HOm.out⟩ (Nat.le_refl _) HOKm.out).mono ?_
  rintro e k3 ⟨AL, cL, rfl, hE, hnil, h⟩
  obtain ⟨L, hL⟩ : ∃ l, encB ⟨bc, bq, m⟩ = l := ⟨_, rfl⟩
  rw [hL] at hE ⊢
  have HEL := Lib.hid hE; clear hE
  have HNL := Lib.hid hnil; clear hnil
  have HL := Lib.hid hL; clear hL
  have hk := h
  have hz := hk.size
  replace p0 := (hk.cell (p := ⟨w.heap.size, 0, none⟩) (by first | (simp; done) | (simp; omega) | omega)).trans p0
  replace p1 := (hk.cell (p := ⟨w.heap.size, 1, none⟩) (by first | (simp; done) | (simp; omega) | omega)).trans p1
  replace p2 := (hk.cell (p := ⟨w.heap.size, 2, none⟩) (by first | (simp; done) | (simp; omega) | omega)).trans p2
  replace HOm := Lib.hid (OwnO.below HOm.out hk)
  replace hb : Below w.heap.size w k3 := hb.trans (hk.mono hb.size)
  clear h hk
  have lt0 : w.heap.size < k3.heap.size := (by first | (simp; done) | (simp; omega) | omega)
  cases hmm : mayB ⟨bc, bq, m⟩
  · obtain ⟨rfl, rfl⟩ := HNL.out hmm
    have hL : L = [] := by rw [← HL.out]; exact enc_none hmm
    subst hL
    clear hmm
    go_wp2
    go_ret
    exact ⟨rfl, hb⟩
  · have hmL := enc_may hmm
    rw [HL.out] at hmL
    obtain ⟨ge, hA⟩ := enc_cases (b := ⟨bc, bq, m⟩) (A := AL) (c := cL) (B := _) (by rw [HL.out]; exact HEL.out) hmm
    subst hA
    have hless := fun n hn => dec_less hmm HOKm.out n hn
    have hmore := dec_more hmm HOKm.out 0
    rw [HL.out] at hless hmore
    obtain ⟨-, hL1, hL2⟩ := hmL
    have HLESS := Lib.hid hless; clear hless
    have HMORE := Lib.hid hmore; clear hmore
    have hne : ((L.length : Int) == 0) = false := by rw [beq_eq_false_iff_ne]; omega
    clear hmm
    by_cases hcut : 1 ≤ a1 ∧ a1 ≤ L.length
    · obtain ⟨n, hn⟩ : ∃ n : Nat, (L.length : Int) - a1 = (n : Int) := ⟨(L.length - a1).toNat, by omega⟩
      have hnL : n < L.length := by omega
      have hd := HLESS.out n hnL
      have HD := Lib.hid hd; clear hd
      have hc3 : ¬ a1 < 1 := by omega
      have hc4 : ¬ (L.length : Int) < a1 := by omega
      have hcc : L.length ≤ cL := by obtain ⟨_, _, hv, hc, _⟩ := Byt.of_own HEL.out; injection hv with _ _ e; omega
      go_wp2_with fail
      refine (decode_to _ _ _ _ (L.take n) 0 0 [] 1 _ (byt_take (Byt.of_own HEL.out) (by omega)) (Nat.le_refl _) (by rw [List.length_take]; omega) HD.out).mono ?_
      rintro e k4 ⟨A4, c4, rfl, hO, h⟩
      have hk : Below k3.heap.size k3 k4 := by
        refine Below.trans ?_ (h.mono (by first | (simp; done) | (simp; omega) | omega))
        repeat' (first | with_reducible exact Below.refl _ _ | (with_reducible refine Below.alloc ?_ ?_ _) | (with_reducible refine Below.setCell ?_ ?_ _) | exact (by first | (simp; done) | (simp; omega) | omega))
      have hz := h.size
      try simp at hz
      replace p0 : k4.cell? ⟨w.heap.size, 0, none⟩ = some (.int .i64 bc) := (hk.cell (p := ⟨w.heap.size, 0, none⟩) (by first | (simp; done) | (simp; omega) | omega)).trans p0
      replace p1 : k4.cell? ⟨w.heap.size, 1, none⟩ = some (.int .i64 bq) := (hk.cell (p := ⟨w.heap.size, 1, none⟩) (by first | (simp; done) | (simp; omega) | omega)).trans p1
      replace p2 : k4.cell? ⟨w.heap.size, 2, none⟩ = some (.slice A0 bl.length c0) := (hk.cell (p := ⟨w.heap.size, 2, none⟩) (by first | (simp; done) | (simp; omega) | omega)).trans p2
      replace HOm := Lib.hid (OwnO.below HOm.out hk)
      replace HEL := Lib.hid (OwnB.below HEL.out hk)
      replace hb : Below w.heap.size w k4 := hb.trans (hk.mono hb.size)
      have lt0 : w.heap.size < k4.heap.size := (by first | (simp; done) | (simp; omega) | omega)
      clear h hk
      clear hO
      have HBY := Lib.hid (fun (ob : Obj) => (Byt.of_own HEL.out).below (below_one k4 ob) (Nat.le_refl _))
      have HNI := Lib.hid (fun (V : World) => ownB_nil w.heap.size V)
      go_wp2_with (at_builtin; refine wpList_append_byt rfl (.const (.slice none 0 0)) (.tmp 48) rfl w.heap.size k4.heap.size (.slice none 0 0) (.slice (some ⟨ge, 0, none⟩) L.length cL) [] L rfl (HNI.out _) rfl (HBY.out _) ?x1 ?x2 ?_)
      case x1 => simp; omega
      case x2 => have := hb.size; simp; omega
      intro v5 k5 hO5 h5
      have hb5 : Below w.heap.size w k5 := (hb.alloc hb.size _).trans h5
      go_wp2_with (at_builtin; refine wpList_append_byt rfl _ _ rfl w.heap.size _ _ _ L [0] rfl (hO5.alloc _) rfl (byt_at1 _ _ 0 0 k5.heap.size rfl rfl) ?x3 ?x4 ?_)
      case x3 => simp; omega
      case x4 => have := hb5.size; simp; omega
      intro v6 k6 hO6 h6
      have hb6 : Below w.heap.size w k6 := (hb5.alloc hb5.size _).trans h6
      obtain ⟨A6, c6, hv6⟩ := own_slice hO6
      rw [show (L ++ [(0 : UInt8)]).length = L.length + 1 by simp] at hv6
      subst hv6
      go_wp2_with fail
      refine (decode_to _ _ _ _ (L ++ [0]) 0 0 [] 1 _ (Byt.of_own hO6) (Nat.le_refl _) (by rw [List.length_append]; simp; omega) HMORE.out).mono ?_
      rintro e k7 ⟨A7, c7, rfl, -, h7⟩
      have hb7 : Below w.heap.size w k7 := hb6.trans (h7.mono hb6.size)
      clear hO5 hO6 h5 h6 h7 HEL HOm
      go_wp2
      go_ret
      exact ⟨rfl, hb7⟩
    · have hc2 : a1 < 1 ∨ (1 ≤ a1 ∧ (L.length : Int) < a1) := by omega
      rcases hc2 with hc2 | ⟨hc1, hc2⟩
      all_goals
        go_wp2
        go_ret
        exact ⟨rfl, hb⟩

set_option maxRecDepth 100000 in
theorem lifted (os : Os) (started : os.Started) (H : Type) (enc : TypeId × Value → H) :
    ReturnsInHanded {} Try.checked os 8 .any (Rows.batchCutSpec.pre6 enc Try.prog Try.f8 Rows.batchCutRow.domain false) (Rows.batchCutSpec.post enc Try.prog Try.f8 false true false false) := by
  refine returnsInHanded_of_change (C := Try.checked) own started (by kernel_rfl) Try.func8
    (ChangeSpec.witness6 (enc := enc) (C := Try.checked) false ⟨#[], #[.agg #[.int .i64 0, .int .i64 0, .slice none 0 0], .int .i64 0, .slice none 0 0], []⟩ 8 (by kernel_rfl) (by kernel_rfl) (by kernel_rfl) (by kernel_rfl)) ?_
  intro W base args ds gs before hval0 hW hcnd _
  have hval : ∀ (j : Nat) t v, Try.f8.params[j]? = some t → args[j]? = some v → Value.okWide Try.prog W .any base t v := hval0
  have hW' := hW
  obtain ⟨p, q, hA0, hV, rfl, hfz, hnd⟩ := hW
  have hA : DataW.TrodAll enc Try.prog W 0 (fun _ => true) true Try.f8.params.toList args.toList ds p := hA0
  have hA1 := hA
  rw [Try.params8] at hA hval
  obtain ⟨v0, vs0, d0, ds0, p0, q0, hargs, rfl, rfl, h0, r0⟩ := trodAll_cons hA
  obtain ⟨v1, vs1, d1, ds1, p1, q1, rfl, rfl, rfl, h1, r1⟩ := trodAll_cons r0
  obtain ⟨v2, vs2, d2, ds2, p2, q2, rfl, rfl, rfl, h2, r2⟩ := trodAll_cons r1
  obtain ⟨rfl, rfl, rfl⟩ := trodAll_nil r2
  obtain rfl : args = #[v0, v1, v2] := by cases args; simp_all
  obtain ⟨rfl, rfl⟩ := trodVars_none hV
  obtain ⟨a0, A0, c0, rfl, w0, x0⟩ := open_bat (hval 0 31 v0 rfl rfl) h0
  obtain ⟨a1, rfl, rfl, rfl, w1⟩ := open_int Try.underlying3 (hval 1 3 v1 rfl rfl) h1
  obtain ⟨A2, c2, a2, rfl, w2, x2⟩ := open_bytes (hval 2 34 v2 rfl rfl) h2
  clear hA0 hval0
  simp only [List.append_nil] at hW'
  try simp only [List.append_nil] at hA1
  refine (walk W a0 A0 c0 w0 x0 a1 w1 A2 c2 a2 w2 x2).mono fun e W' ⟨he, hg⟩ => ?_
  subst he
  exact ⟨_, rfl, law_end Try.laidOut (by kernel_rfl) hW' hA1 hg rfl rfl rfl (trodAll_mk1 (shut_bool Try.underlying4 _))⟩

theorem over : Rows.batchCutRow.holds Try.pinned (OpenSpec.ofChange Rows.batchCutSpec) :=
  OpenClaim.holds_of_wide 8 Try.f8 rfl rfl rfl rfl rfl rfl rfl ⟨rfl, rfl, rfl, rfl, rfl⟩ rfl rfl rfl rfl rfl (by kernel_rfl) Try.func8 (by kernel_rfl)
    (of_decide_eq_true (by kernel_rfl)) (by unfold Func.isWrapper; first | (rw [if_pos (by decide +kernel)]; kernel_rfl) | (rw [if_neg (by decide +kernel)]; exact ⟨rfl, rfl⟩))
    (fun os started H enc _ => lifted os started H enc)

/-- the statement -/
theorem proved : Rows.BatchCutSaid := over
#print axioms proved
end Go.Proofs.Ytdhppekfehbngaa.batchCut
