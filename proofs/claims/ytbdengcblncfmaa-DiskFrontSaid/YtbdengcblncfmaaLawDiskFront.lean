/-
  Of what was appended behind a sync just a beginning stays, of any length that is asked for.
-/
import Derived.Test.YtbdengcblncfmaaRows
import Derived.Test.YtbdengcblncfmaaL9One
import Derived.Test.YtbdengcblncfmaaLawKit
import Derived.WalkKit
import Derived.ProofKit
import Derived.OpenShut
import Derived.ShutString
set_option linter.unusedSimpArgs false
set_option linter.unusedVariables false
namespace Go.Proofs.Ytbdengcblncfmaa.diskFront
open Go.ChangeShapes Go.WideShapes Go.ChangeAt Go.RowKit
open Go.ChangeMaps (open_string shut_string)
set_option linter.unusedVariables false

theorem own : ownKnob Try.prog.godebug = none := by kernel_rfl

set_option maxRecDepth 100000 in
set_option maxHeartbeats 8000000 in
theorem walk (w : World) (A0 : Option Addr) (c0 : Nat) (a0 : List UInt8) (w0 : Byt w w.heap.size (.slice A0 a0.length c0) a0) (x0 : a0.length ≤ maxLen) (A1 : Option Addr) (c1 : Nat) (a1 : List UInt8) (w1 : Byt w w.heap.size (.slice A1 a1.length c1) a1) (x1 : a1.length ≤ maxLen) (a2 : Int) (w2 : (Lit.int .i64 a2).wf = true) :
    Calls Try.prog 7 #[.slice A0 a0.length c0, .slice A1 a1.length c1, .int .i64 a2] w fun e w' => e = .returned (.bool true) ∧ Below w.heap.size w w' := by
  have HML := Lib.hid nF_size
  have HA0 := Lib.hid w0; clear w0
  obtain ⟨q0, hq0⟩ : ∃ q, a0.length = q := ⟨_, rfl⟩
  rw [hq0] at HA0
  have HQ0 := Lib.hid hq0
  clear x0
  have HA1 := Lib.hid w1; clear w1
  obtain ⟨q1, hq1⟩ : ∃ q, a1.length = q := ⟨_, rfl⟩
  rw [hq1] at HA1
  have HQ1 := Lib.hid hq1
  clear x1
  have hn2 := wf_i64 w2
  rw [hq0, hq1]
  clear hq0 hq1 w2
  have HN2 := Lib.hid hn2; clear hn2
  have h9 : (60 : Int) < q0 ∨ (¬ (60 : Int) < q0 ∧ (60 : Int) < q1) ∨ (¬ (60 : Int) < q0 ∧ ¬ (60 : Int) < q1 ∧ a2 < 0) ∨ (¬ (60 : Int) < q0 ∧ ¬ (60 : Int) < q1 ∧ ¬ a2 < 0) := by omega
  rcases h9 with h9 | ⟨h9, h8⟩ | ⟨h9, h8, h7⟩ | ⟨h9, h8, h7⟩
  · go_enter Try.func7, Try.ntmps7
    go_wp2_with fail
    refine (begun9_any w).mono ?_
    rintro e k1 ⟨rfl, hb⟩
    have HB1 := Lib.hid hb
    clear hb
    go_wp2
    go_ret
    exact ⟨rfl, HB1.out⟩
  · go_enter Try.func7, Try.ntmps7
    go_wp2_with fail
    refine (begun9_any w).mono ?_
    rintro e k1 ⟨rfl, hb⟩
    have HB1 := Lib.hid hb
    clear hb
    go_wp2
    go_ret
    exact ⟨rfl, HB1.out⟩
  · go_enter Try.func7, Try.ntmps7
    go_wp2_with fail
    refine (begun9_any w).mono ?_
    rintro e k1 ⟨rfl, hb⟩
    have HB1 := Lib.hid hb
    clear hb
    go_wp2
    go_ret
    exact ⟨rfl, HB1.out⟩
  · go_enter Try.func7, Try.ntmps7
    go_wp2_with fail
    refine (begun9_any w).mono ?_
    rintro e k1 ⟨rfl, hb⟩
    have HB1 := Lib.hid hb
    clear hb
    go_wp2_with fail
    refine (new_dk _).mono ?_
    rintro e k2 ⟨rfl, hd, hb⟩
    have HD := Lib.hid hd
    have HZ1 := Lib.hid HB1.out.size
    have HZ := Lib.hid hb.size
    have HB2 := Lib.hid (HB1.out.trans (hb.mono HB1.out.size))
    clear hd hb HB1
    go_wp2_with fail
    refine (app_dk (n := nF) (bs := a0) HD.out HZ.out HML.out (by omega) (Nat.zero_le _) ((HA0.out.below HB2.out (Nat.le_refl _)).more HZ1.out) (by rw [HQ0.out]; omega) _ (one_app0 a0 (by rw [HQ0.out]; omega))).mono ?_
    rintro e k3 ⟨rfl, hd, hb⟩
    clear HD
    have HD := Lib.hid hd
    have HZ3 := Lib.hid (Nat.le_trans HZ.out hb.size)
    have HB3 := Lib.hid (HB2.out.trans (hb.mono HZ1.out))
    clear hd hb HB2
    go_wp2_with fail
    refine (sync_dk (n := nF) HD.out HZ3.out HML.out (by omega) (by simp) _ (one_sync a0 _ _)).mono ?_
    rintro e k4 ⟨rfl, hd, hb⟩
    clear HD
    have HD := Lib.hid hd
    have HZ4 := Lib.hid (Nat.le_trans HZ3.out hb.size)
    have HB4 := Lib.hid (HB3.out.trans (hb.mono HZ1.out))
    clear hd hb HB3
    go_wp2_with fail
    refine (app_dk (n := nF) (bs := a1) HD.out HZ4.out HML.out (by omega) (by simp) ((HA1.out.below HB4.out (Nat.le_refl _)).more HZ1.out) (by rw [HQ1.out]; omega) _ (one_app a1 a0 _ _ (by rw [HQ1.out]; omega) (by rw [HQ0.out]; omega))).mono ?_
    rintro e k5 ⟨rfl, hd, hb⟩
    clear HD
    have HD := Lib.hid hd
    have HB5 := Lib.hid (HB4.out.trans (hb.mono HZ1.out))
    clear hd hb HB4
    obtain ⟨kk, hkk⟩ : ∃ kk, kOf9 a2 ⟨nF, a0 ++ a1, a0.length, true⟩ = kk := ⟨_, rfl⟩
    have hkm : a2.tmod ((q1 : Int) + 1) = (kk : Nat) := by
      unfold kOf9 at hkk
      have e1 : (((a0 ++ a1).length : Nat) : Int) - (a0.length : Nat) + 1 = (q1 : Int) + 1 := by
        have := HQ1.out
        rw [List.length_append]; omega
      have e2 : (if 0 < a2 then (a2.tmod ((q1 : Int) + 1)).toNat else 0) = kk := by rw [← hkk, ← e1]
      have h0 := Int.tmod_nonneg ((q1 : Int) + 1) (show 0 ≤ a2 by omega)
      by_cases h : 0 < a2
      · rw [if_pos h] at e2; omega
      · rw [if_neg h] at e2
        have : a2 = 0 := by omega
        rw [this, Int.zero_tmod]; omega
    have hkl := Int.tmod_lt_of_pos a2 (show (0 : Int) < (q1 : Int) + 1 by omega)
    rw [hkm] at hkl
    go_wp2_with fail
    refine (crash_dk (n := a2) HD.out (by simp) (by have := HN2.out; omega) _ (one_crash (a0 ++ a1) a0.length a2 kk hkk)).mono ?_
    rintro e k6 ⟨rfl, hd, hb⟩
    have HC := Lib.hid hd
    have HB6 := Lib.hid (HB5.out.trans (hb.mono HB5.out.size))
    clear hb hd HB5 HD
    have hwm : IntKind.i64.wrap (a2.tmod ((q1 : Int) + 1)) = (kk : Nat) := by rw [hkm, IntKind.wrap_i64]; omega
    have hwq : IntKind.i64.wrap ((q1 : Int) + 1) = (q1 : Int) + 1 := by rw [IntKind.wrap_i64]; omega
    clear hkk
    go_wp2_with fail
    refine (read_dk (n := nF) HC.out HML.out _ (one_get ⟨nF, (a0 ++ a1).take (a0.length + kk), a0.length + kk, true⟩)).mono ?_
    rintro e k7 ⟨v7, rfl, hv, hb⟩
    have HB7 := Lib.hid (HB6.out.trans (hb.mono HB6.out.size))
    clear hb HB6 HC
    have htk : (a0 ++ a1).take (a0.length + kk) = a0 ++ a1.take kk := by rw [List.take_append, List.take_of_length_le (by omega), Nat.add_sub_cancel_left]
    have hv2 : Byt k7 k7.heap.size v7 (a0 ++ a1.take kk) := by rw [← htk]; exact Byt.of_own hv
    obtain ⟨S0, hS0⟩ : ∃ S : ByteArray, (⟨a0.toArray⟩ : ByteArray) = S := ⟨_, rfl⟩
    obtain ⟨S1, hS1⟩ : ∃ S : ByteArray, (⟨(a1.take kk).toArray⟩ : ByteArray) = S := ⟨_, rfl⟩
    obtain ⟨S2, hS2⟩ : ∃ S : ByteArray, (⟨(a0 ++ a1.take kk).toArray⟩ : ByteArray) = S := ⟨_, rfl⟩
    have hA0 := HA0.out.below HB7.out (Nat.le_refl _)
    have hA1 := HA1.out.below HB7.out (Nat.le_refl _)
    have hA1t := byt_take9 (j := kk) (by rw [HQ1.out]; exact hA1) (by rw [HQ1.out]; omega)
    have hcap := (byt_cap9 hA1).2
    have hc0 := conv9 hA0 hS0
    have hc1 := conv9 hA1t hS1
    have hc2 := conv9 hv2 hS2
    have HS := Lib.hid (show S0 ++ S1 = S2 by rw [← hS0, ← hS1, ← hS2]; simp [ByteArray.ext_iff])
    have HX0 := Lib.hid hA0
    have HX1 := Lib.hid hA1t
    have HX2 := Lib.hid hv2
    have HS0 := Lib.hid hS0
    have HS1 := Lib.hid hS1
    have HS2 := Lib.hid hS2
    have hsz : S0.size + S1.size ≤ 9223372036854775807 := by
      rw [← hS0, ← hS1]
      show a0.toArray.size + (a1.take kk).toArray.size ≤ _
      have := HQ0.out
      rw [List.size_toArray, List.size_toArray, List.length_take]; omega
    clear hv htk hv2 hA0 hA1 hA1t hS0 hS1 hS2 hc0 hc1 hc2
    go_wp2_with fail
    have hkc : (kk : Int) ≤ c1 := by have := hcap; omega
    have hnz : ¬ (q1 : Int) + 1 = 0 := by omega
    have hnz2 : (((q1 : Int) + 1) == 0) = false := by simpa using hnz
    have hb := HB7.out
    have hr0 : (convert 30 9 (.slice A0 q0 c0)).run Try.prog k7.drew = .ok (.string S0) k7.drew := conv9 (w := k7.drew) HX0.out HS0.out
    have hr1 : (convert 30 9 (.slice A1 kk c1)).run Try.prog k7.drew = .ok (.string S1) k7.drew := conv9 (w := k7.drew) HX1.out HS1.out
    have hr2 : (convert 30 9 v7).run Try.prog k7.drew = .ok (.string S2) k7.drew := conv9 (w := k7.drew) HX2.out HS2.out
    refine wp_region_noPanic ?_
    refine wp_region_held_drew (S := fun W => (convert 30 9 (.slice A0 q0 c0)).run Try.prog W = .ok (.string S0) W ∧ (convert 30 9 (.slice A1 kk c1)).run Try.prog W = .ok (.string S1) W ∧ (convert 30 9 v7).run Try.prog W = .ok (.string S2) W) (by kernel_rfl) ?_ (fun hHeld => ?_)
    · exact ⟨hr0, hr1, hr2⟩
    replace hb : Below w.heap.size w k7.drew := hb.drew
    have hzd : k7.heap.size ≤ k7.drew.heap.size := Nat.le_refl _
    generalize k7.drew = k1 at *
    refine wpAnyH_take (i := 0) (oi := { dst := some 43, op := Op.move (Operand.tmp 0), type := 30, pos := "wide.go:22", after := #[], guard := none }) (v := .slice A0 q0 c0) rfl (by kernel_rfl) (by kernel_rfl) (by kernel_rfl) (fun _ _ _ h => h) (Or.inl ⟨by rfl, fun w hSw => ?_⟩) (by assumption) ?_
    · (try dsimp only at hSw)
      go_simp
    try simp only [Act.put, List.setIfInBounds_toArray, List.set_cons_zero, List.set_cons_succ]
    refine wpAnyH_take (i := 1) (oi := { dst := some 44, op := Op.convert 30 9 (Operand.tmp 43), type := 9, pos := "wide.go:22", after := #[{ on := 0, ground := Ground.data }], guard := none }) (v := .string S0) rfl (by kernel_rfl) (by kernel_rfl) (by kernel_rfl) (fun _ _ _ h => h) (Or.inl ⟨by rfl, fun w hSw => ?_⟩) (by assumption) ?_
    · (try dsimp only at hSw)
      go_simp
    try simp only [Act.put, List.setIfInBounds_toArray, List.set_cons_zero, List.set_cons_succ]
    refine wpAnyH_take (i := 2) (oi := { dst := some 45, op := Op.move (Operand.tmp 1), type := 30, pos := "wide.go:22", after := #[], guard := none }) (v := .slice A1 q1 c1) rfl (by kernel_rfl) (by kernel_rfl) (by kernel_rfl) (fun _ _ _ h => h) (Or.inl ⟨by rfl, fun w hSw => ?_⟩) (by assumption) ?_
    · (try dsimp only at hSw)
      go_simp
    try simp only [Act.put, List.setIfInBounds_toArray, List.set_cons_zero, List.set_cons_succ]
    refine wpAnyH_take (i := 3) (oi := { dst := some 46, op := Op.move (Operand.tmp 2), type := 3, pos := "wide.go:22", after := #[], guard := none }) (v := .int .i64 a2) rfl (by kernel_rfl) (by kernel_rfl) (by kernel_rfl) (fun _ _ _ h => h) (Or.inl ⟨by rfl, fun w hSw => ?_⟩) (by assumption) ?_
    · (try dsimp only at hSw)
      go_simp
    try simp only [Act.put, List.setIfInBounds_toArray, List.set_cons_zero, List.set_cons_succ]
    refine wpAnyH_take (i := 4) (oi := { dst := some 47, op := Op.move (Operand.tmp 1), type := 30, pos := "wide.go:22", after := #[], guard := none }) (v := .slice A1 q1 c1) rfl (by kernel_rfl) (by kernel_rfl) (by kernel_rfl) (fun _ _ _ h => h) (Or.inl ⟨by rfl, fun w hSw => ?_⟩) (by assumption) ?_
    · (try dsimp only at hSw)
      go_simp
    try simp only [Act.put, List.setIfInBounds_toArray, List.set_cons_zero, List.set_cons_succ]
    refine wpAnyH_take (i := 5) (oi := { dst := some 48, op := Op.call { callee := Callee.builtin Builtin.len, args := #[Operand.tmp 47], argTypes := #[30] }, type := 3, pos := "wide.go:22", after := #[{ on := 4, ground := Ground.data }], guard := none }) (v := .int .i64 (q1 : Nat)) rfl (by kernel_rfl) (by kernel_rfl) (by kernel_rfl) (fun _ _ _ h => h) (Or.inl ⟨by rfl, fun w hSw => ?_⟩) (by assumption) ?_
    · (try dsimp only at hSw)
      go_simp
    try simp only [Act.put, List.setIfInBounds_toArray, List.set_cons_zero, List.set_cons_succ]
    refine wpAnyH_take (i := 6) (oi := { dst := some 49, op := Op.binOp BinOp.add 3 (Operand.tmp 48) (Operand.const (Value.int IntKind.i64 1)) 3, type := 3, pos := "wide.go:22", after := #[{ on := 5, ground := Ground.data }], guard := none }) (v := .int .i64 ((q1 : Int) + 1)) rfl (by kernel_rfl) (by kernel_rfl) (by kernel_rfl) (fun _ _ _ h => h) (Or.inl ⟨by rfl, fun w hSw => ?_⟩) (by assumption) ?_
    · (try dsimp only at hSw)
      go_simp
    try simp only [Act.put, List.setIfInBounds_toArray, List.set_cons_zero, List.set_cons_succ]
    refine wpAnyH_take (i := 7) (oi := { dst := some 50, op := Op.binOp BinOp.rem 3 (Operand.tmp 46) (Operand.tmp 49) 3, type := 3, pos := "wide.go:22", after := #[{ on := 3, ground := Ground.data }, { on := 6, ground := Ground.data }], guard := none }) (v := .int .i64 (kk : Nat)) rfl (by kernel_rfl) (by kernel_rfl) (by kernel_rfl) (fun _ _ _ h => h) (Or.inl ⟨by rfl, fun w hSw => ?_⟩) (by assumption) ?_
    · (try dsimp only at hSw)
      go_simp
    try simp only [Act.put, List.setIfInBounds_toArray, List.set_cons_zero, List.set_cons_succ]
    refine wpAnyH_take (i := 8) (oi := { dst := some 51, op := Op.slice 30 (Operand.tmp 45) none (some (Operand.tmp 50)) none, type := 30, pos := "wide.go:22", after := #[{ on := 2, ground := Ground.data }, { on := 7, ground := Ground.data }], guard := none }) (v := .slice A1 kk c1) rfl (by kernel_rfl) (by kernel_rfl) (by kernel_rfl) (fun _ _ _ h => h) (Or.inl ⟨by rfl, fun w hSw => ?_⟩) (by assumption) ?_
    · (try dsimp only at hSw)
      go_simp
    try simp only [Act.put, List.setIfInBounds_toArray, List.set_cons_zero, List.set_cons_succ]
    refine wpAnyH_take (i := 9) (oi := { dst := some 52, op := Op.convert 30 9 (Operand.tmp 51), type := 9, pos := "wide.go:22", after := #[{ on := 8, ground := Ground.data }], guard := none }) (v := .string S1) rfl (by kernel_rfl) (by kernel_rfl) (by kernel_rfl) (fun _ _ _ h => h) (Or.inl ⟨by rfl, fun w hSw => ?_⟩) (by assumption) ?_
    · (try dsimp only at hSw)
      go_simp
    try simp only [Act.put, List.setIfInBounds_toArray, List.set_cons_zero, List.set_cons_succ]
    refine wpAnyH_take (i := 10) (oi := { dst := some 53, op := Op.binOp BinOp.add 9 (Operand.tmp 44) (Operand.tmp 52) 9, type := 9, pos := "wide.go:22", after := #[{ on := 1, ground := Ground.data }, { on := 9, ground := Ground.data }], guard := none }) (v := .string (S0 ++ S1)) rfl (by kernel_rfl) (by kernel_rfl) (by kernel_rfl) (fun _ _ _ h => h) (Or.inl ⟨by rfl, fun w hSw => ?_⟩) (by assumption) ?_
    · (try dsimp only at hSw)
      go_simp
    try simp only [Act.put, List.setIfInBounds_toArray, List.set_cons_zero, List.set_cons_succ]
    refine wpAnyH_take (i := 11) (oi := { dst := some 11, op := Op.assign (Operand.tmp 53), type := 9, pos := "wide.go:22", after := #[{ on := 10, ground := Ground.data }, { on := 0, ground := Ground.phase }, { on := 1, ground := Ground.phase }, { on := 2, ground := Ground.phase }, { on := 3, ground := Ground.phase }, { on := 4, ground := Ground.phase }, { on := 5, ground := Ground.phase }, { on := 6, ground := Ground.phase }, { on := 7, ground := Ground.phase }, { on := 8, ground := Ground.phase }, { on := 9, ground := Ground.phase }, { on := 10, ground := Ground.phase }], guard := none }) (v := .string (S0 ++ S1)) rfl (by kernel_rfl) (by kernel_rfl) (by kernel_rfl) (fun _ _ _ h => h) (Or.inl ⟨by rfl, fun w hSw => ?_⟩) (by assumption) ?_
    · (try dsimp only at hSw)
      go_simp
    try simp only [Act.put, List.setIfInBounds_toArray, List.set_cons_zero, List.set_cons_succ]
    refine wpAnyH_done (by kernel_rfl) ?_ _
    refine NoPanic.normal ?_
    rw [HS.out]
    have hss : (S2.toList == S2.toList) = true := beq_self_eq_true _
    go_wp2
    go_ret
    exact ⟨rfl, hb⟩

set_option maxRecDepth 100000 in
theorem lifted (os : Os) (started : os.Started) (H : Type) (enc : TypeId × Value → H) :
    ReturnsInHanded {} Try.checked os 7 .any (Rows.diskFrontSpec.pre6 enc Try.prog Try.f7 Rows.diskFrontRow.domain false) (Rows.diskFrontSpec.post enc Try.prog Try.f7 false true false false) := by
  refine returnsInHanded_of_change (C := Try.checked) own started (by kernel_rfl) Try.func7
    (ChangeSpec.witness6 (enc := enc) (C := Try.checked) false ⟨#[], #[.slice none 0 0, .slice none 0 0, .int .i64 0], []⟩ 8 (by kernel_rfl) (by kernel_rfl) (by kernel_rfl) (by kernel_rfl)) ?_
  intro W base args ds gs before hval0 hW hcnd _
  have hval : ∀ (j : Nat) t v, Try.f7.params[j]? = some t → args[j]? = some v → Value.okWide Try.prog W .any base t v := hval0
  have hW' := hW
  obtain ⟨p, q, hA0, hV, rfl, hfz, hnd⟩ := hW
  have hA : DataW.TrodAll enc Try.prog W 0 (fun _ => true) true Try.f7.params.toList args.toList ds p := hA0
  have hA1 := hA
  rw [Try.params7] at hA hval
  obtain ⟨v0, vs0, d0, ds0, p0, q0, hargs, rfl, rfl, h0, r0⟩ := trodAll_cons hA
  obtain ⟨v1, vs1, d1, ds1, p1, q1, rfl, rfl, rfl, h1, r1⟩ := trodAll_cons r0
  obtain ⟨v2, vs2, d2, ds2, p2, q2, rfl, rfl, rfl, h2, r2⟩ := trodAll_cons r1
  obtain ⟨rfl, rfl, rfl⟩ := trodAll_nil r2
  obtain rfl : args = #[v0, v1, v2] := by cases args; simp_all
  obtain ⟨rfl, rfl⟩ := trodVars_none hV
  obtain ⟨A0, c0, a0, rfl, w0, x0⟩ := open_bytes (hval 0 30 v0 rfl rfl) h0
  obtain ⟨A1, c1, a1, rfl, w1, x1⟩ := open_bytes (hval 1 30 v1 rfl rfl) h1
  obtain ⟨a2, rfl, rfl, rfl, w2⟩ := open_int Try.underlying3 (hval 2 3 v2 rfl rfl) h2
  clear hA0 hval0
  simp only [List.append_nil] at hW'
  try simp only [List.append_nil] at hA1
  refine (walk W A0 c0 a0 w0 x0 A1 c1 a1 w1 x1 a2 w2).mono fun e W' ⟨he, hg⟩ => ?_
  subst he
  exact ⟨_, rfl, law_end Try.laidOut (by kernel_rfl) hW' hA1 hg rfl rfl rfl (trodAll_mk1 (shut_bool Try.underlying4 _))⟩

theorem over : Rows.diskFrontRow.holds Try.pinned (OpenSpec.ofChange Rows.diskFrontSpec) :=
  OpenClaim.holds_of_wide 7 Try.f7 rfl rfl rfl rfl rfl rfl rfl ⟨rfl, rfl, rfl, rfl, rfl⟩ rfl rfl rfl rfl rfl (by kernel_rfl) Try.func7 (by kernel_rfl)
    (of_decide_eq_true (by kernel_rfl)) (by unfold Func.isWrapper; first | (rw [if_pos (by decide +kernel)]; kernel_rfl) | (rw [if_neg (by decide +kernel)]; exact ⟨rfl, rfl⟩))
    (fun os started H enc _ => lifted os started H enc)

/-- the statement -/
theorem proved : Rows.DiskFrontSaid := over
#print axioms proved
end Go.Proofs.Ytbdengcblncfmaa.diskFront
