/-
  The statements' tells of stage 7: bytes are a fold's, just its, or nobody's.
  The bytes are there in memory, at most 1,000,000.
-/
import Derived.Test.YtegkhkcnoahhdaaL7Begun
set_option linter.unusedSimpArgs false
set_option linter.unusedVariables false
namespace Go.Proofs.Ytegkhkcnoahhdaa
open Go.RowKit
set_option maxRecDepth 100000

theorem decF_back {l : List UInt8} {f : Fo} (hl : l.length ≤ 1000000) (hg : FoG f) (h : decF l = some f) : bytesF f = l := by
  have e : f.d = (rdF l).2.1 := by
    have h2 := h
    unfold decF at h2
    generalize rdF l = r at h2 ⊢
    by_cases hc : (r.2.2.2.2 = true ∨ 0 < r.2.2.2.1.length ∨ mayF r.1 (laAt r.2.2.1) = false)
    · rw [if_pos hc] at h2; exact absurd h2 (by simp)
    · rw [if_neg hc] at h2
      have h3 := Option.some.inj h2
      exact (congrArg Fo.d h3).symm
  exact (decF_yes hl (by rw [← e]; exact hg.d) h).2.1
set_option maxHeartbeats 1000000 in
theorem tells7_any (A : Option Addr) (n c B : Nat) (l : List UInt8) (w : World) (h : Byt w B (.slice A n c) l) (hB : B ≤ w.heap.size) (hl : l.length ≤ 1000000) :
    Calls Try.prog 7 #[.slice A n c] w fun e w' => e = .returned (.bool true) ∧ Below w.heap.size w w' := by
  have hb := Below.refl w.heap.size w
  obtain ⟨o, ho⟩ : ∃ o, decF l = o := ⟨_, rfl⟩
  have HBY := Lib.hid h; clear h
  cases o with
  | none =>
    have HO := Lib.hid ho; clear ho
    go_enter Try.func7, Try.ntmps7
    go_wp2_with fail
    refine (fdec_no A n c B l _ HBY.out hB hl HO.out).mono ?_
    rintro e k1 ⟨rfl, h⟩
    have hk : Below w.heap.size w k1 := HK9 h
    have hz := h.size
    try simp at hz
    replace hb : Below w.heap.size w k1 := hb.trans (hk.mono hb.size)
    clear h hk
    go_wp2
    go_ret
    exact ⟨rfl, hb⟩
  | some x =>
    have HO := Lib.hid ho; clear ho
    obtain ⟨S, hS⟩ : ∃ S : ByteArray, ⟨l.toArray⟩ = S := ⟨_, rfl⟩
    have HS := Lib.hid hS; clear hS
    go_enter Try.func7, Try.ntmps7
    go_wp2_with fail
    refine (fdec_yes A n c w.heap.size B l x _ HBY.out hB (Nat.le_refl _) hl HO.out).mono ?_
    rintro e k1 ⟨g, rfl, ⟨hd, hgl⟩, h⟩
    have hk : Below w.heap.size w k1 := HK9 h
    have hz := h.size
    try simp at hz
    replace HBY := Lib.hid (Byt.below HBY.out hk (Nat.le_trans hB hb.size))
    replace hb : Below w.heap.size w k1 := hb.trans (hk.mono hb.size)
    clear h hk
    have HD := Lib.hid hd
    have hltHD : g < k1.heap.size := HD.out.lt
    have hcn := decF_back hl hd.good HO.out
    have HC := Lib.hid hcn; clear hcn hd
    go_wp2_with fail
    replace HBY := Lib.hid (Byt.below HBY.out ((Below.refl k1.heap.size k1).drew) (Nat.le_trans hB hb.size))
    replace HD := Lib.hid (Fd.below HD.out ((Below.refl k1.heap.size k1).drew))
    refine wp_region_noPanic ?_
    refine wp_region_held_drew (S := fun W => True) (by kernel_rfl) ?_ (fun hHeld => ?_)
    · trivial
    replace hb : Below w.heap.size w k1.drew := hb.drew
    have hzd : k1.heap.size ≤ k1.drew.heap.size := Nat.le_refl _
    generalize k1.drew = k2 at *
    refine wpAnyH_take (i := 0) (oi := { dst := some 18, op := Op.move (Operand.tmp 3), type := 26, pos := "law.go:117", after := #[], guard := none }) (v := .pointer (some ⟨g, 0, none⟩)) rfl (by kernel_rfl) (by kernel_rfl) (by kernel_rfl) (fun _ _ _ h => h) (Or.inl ⟨by rfl, fun w hSw => ?_⟩) (by assumption) ?_
    · (try dsimp only at hSw)
      go_simp
    try simp only [Act.put, List.setIfInBounds_toArray, List.set_cons_zero, List.set_cons_succ]
    refine wpAnyH_take (i := 3) (oi := { dst := some 21, op := Op.move (Operand.tmp 0), type := 22, pos := "law.go:117", after := #[], guard := none }) (v := .slice A n c) rfl (by kernel_rfl) (by kernel_rfl) (by kernel_rfl) (fun _ _ _ h => h) (Or.inl ⟨by rfl, fun w hSw => ?_⟩) (by assumption) ?_
    · (try dsimp only at hSw)
      go_simp
    try simp only [Act.put, List.setIfInBounds_toArray, List.set_cons_zero, List.set_cons_succ]
    refine wpAnyH_ready (rs := [1, 4]) (by kernel_rfl) (by simp) ?_
    refine AllReadyH.cons (o := { dst := some 19, op := Op.call { callee := Callee.value (Operand.func 18), args := #[Operand.tmp 18], argTypes := #[26] }, type := 22, pos := "law.go:117", after := #[{ on := 0, ground := Ground.data }], guard := none }) rfl (fun K hK => ?_) (AllReadyH.cons (o := { dst := some 22, op := Op.convert 22 9 (Operand.tmp 21), type := 9, pos := "law.go:117", after := #[{ on := 3, ground := Ground.data }], guard := none }) rfl (fun K hK => ?_) (AllReadyH.nil))
    · go_simp
      go_at_call 18
      refine (fenc_to w.heap.size _ x l _ HD.out HC.out).mono ?_
      rintro e k3 ⟨ge, ce, rfl, hE, h⟩
      have hk : Below k2.heap.size k2 k3 := HK9 h
      have hz := h.size
      try simp at hz
      replace HBY := Lib.hid (Byt.below HBY.out hk (Nat.le_trans hB hb.size))
      replace HD := Lib.hid (Fd.below HD.out hk)
      replace hb : Below w.heap.size w k3 := hb.trans (hk.mono hb.size)
      have HEL := Lib.hid hE; clear hE
      clear h hk
      try dsimp only
      refine hK.out _ _ ?_ (fun hHeld => ?_)
      · trivial
      clear hK K
      try simp only [Act.put, List.setIfInBounds_toArray, List.set_cons_zero, List.set_cons_succ]
      refine wpAnyH_ready (rs := [2, 4]) (by kernel_rfl) (by simp) ?_
      refine AllReadyH.cons (o := { dst := some 20, op := Op.convert 22 9 (Operand.tmp 19), type := 9, pos := "law.go:117", after := #[{ on := 1, ground := Ground.data }], guard := none }) rfl (fun K hK => ?_) (AllReadyH.cons (o := { dst := some 22, op := Op.convert 22 9 (Operand.tmp 21), type := 9, pos := "law.go:117", after := #[{ on := 3, ground := Ground.data }], guard := none }) rfl (fun K hK => ?_) (AllReadyH.nil))
      · have hcv := conv6 (Byt.of_own HEL.out) HS.out
        go_simp
        refine hK.out _ _ ?_ (fun hHeld => ?_)
        · trivial
        clear hK K
        try simp only [Act.put, List.setIfInBounds_toArray, List.set_cons_zero, List.set_cons_succ]
        refine wpAnyH_ready (rs := [4]) (by kernel_rfl) (by simp) ?_
        refine AllReadyH.cons (o := { dst := some 22, op := Op.convert 22 9 (Operand.tmp 21), type := 9, pos := "law.go:117", after := #[{ on := 3, ground := Ground.data }], guard := none }) rfl (fun K hK => ?_) (AllReadyH.nil)
        have hcv := conv6 HBY.out HS.out
        go_simp
        refine hK.out _ _ ?_ (fun hHeld => ?_)
        · trivial
        clear hK K
        try simp only [Act.put, List.setIfInBounds_toArray, List.set_cons_zero, List.set_cons_succ]
        refine wpAnyH_ready (rs := [5]) (by kernel_rfl) (by simp) ?_
        refine AllReadyH.cons (o := { dst := some 23, op := Op.binOp BinOp.eql 9 (Operand.tmp 20) (Operand.tmp 22) 9, type := 4, pos := "law.go:117", after := #[{ on := 2, ground := Ground.data }, { on := 4, ground := Ground.data }], guard := none }) rfl (fun K hK => ?_) (AllReadyH.nil)
        go_simp
        refine hK.out _ _ ?_ (fun hHeld => ?_)
        · trivial
        clear hK K
        try simp only [Act.put, List.setIfInBounds_toArray, List.set_cons_zero, List.set_cons_succ]
        refine wpAnyH_ready (rs := [6]) (by kernel_rfl) (by simp) ?_
        refine AllReadyH.cons (o := { dst := some 2, op := Op.assign (Operand.tmp 23), type := 4, pos := "law.go:117", after := #[{ on := 5, ground := Ground.data }, { on := 1, ground := Ground.chain }, { on := 0, ground := Ground.phase }, { on := 1, ground := Ground.phase }, { on := 2, ground := Ground.phase }, { on := 3, ground := Ground.phase }, { on := 4, ground := Ground.phase }, { on := 5, ground := Ground.phase }], guard := none }) rfl (fun K hK => ?_) (AllReadyH.nil)
        go_simp
        refine hK.out _ _ ?_ (fun hHeld => ?_)
        · trivial
        clear hK K
        try simp only [Act.put, List.setIfInBounds_toArray, List.set_cons_zero, List.set_cons_succ]
        refine wpAnyH_done (by kernel_rfl) ?_ _
        refine NoPanic.normal ?_
        go_wp2
        go_ret
        exact ⟨by first | rfl | simp, hb⟩
      · have hcv := conv6 HBY.out HS.out
        go_simp
        refine hK.out _ _ ?_ (fun hHeld => ?_)
        · trivial
        clear hK K
        try simp only [Act.put, List.setIfInBounds_toArray, List.set_cons_zero, List.set_cons_succ]
        refine wpAnyH_ready (rs := [2]) (by kernel_rfl) (by simp) ?_
        refine AllReadyH.cons (o := { dst := some 20, op := Op.convert 22 9 (Operand.tmp 19), type := 9, pos := "law.go:117", after := #[{ on := 1, ground := Ground.data }], guard := none }) rfl (fun K hK => ?_) (AllReadyH.nil)
        have hcv := conv6 (Byt.of_own HEL.out) HS.out
        go_simp
        refine hK.out _ _ ?_ (fun hHeld => ?_)
        · trivial
        clear hK K
        try simp only [Act.put, List.setIfInBounds_toArray, List.set_cons_zero, List.set_cons_succ]
        refine wpAnyH_ready (rs := [5]) (by kernel_rfl) (by simp) ?_
        refine AllReadyH.cons (o := { dst := some 23, op := Op.binOp BinOp.eql 9 (Operand.tmp 20) (Operand.tmp 22) 9, type := 4, pos := "law.go:117", after := #[{ on := 2, ground := Ground.data }, { on := 4, ground := Ground.data }], guard := none }) rfl (fun K hK => ?_) (AllReadyH.nil)
        go_simp
        refine hK.out _ _ ?_ (fun hHeld => ?_)
        · trivial
        clear hK K
        try simp only [Act.put, List.setIfInBounds_toArray, List.set_cons_zero, List.set_cons_succ]
        refine wpAnyH_ready (rs := [6]) (by kernel_rfl) (by simp) ?_
        refine AllReadyH.cons (o := { dst := some 2, op := Op.assign (Operand.tmp 23), type := 4, pos := "law.go:117", after := #[{ on := 5, ground := Ground.data }, { on := 1, ground := Ground.chain }, { on := 0, ground := Ground.phase }, { on := 1, ground := Ground.phase }, { on := 2, ground := Ground.phase }, { on := 3, ground := Ground.phase }, { on := 4, ground := Ground.phase }, { on := 5, ground := Ground.phase }], guard := none }) rfl (fun K hK => ?_) (AllReadyH.nil)
        go_simp
        refine hK.out _ _ ?_ (fun hHeld => ?_)
        · trivial
        clear hK K
        try simp only [Act.put, List.setIfInBounds_toArray, List.set_cons_zero, List.set_cons_succ]
        refine wpAnyH_done (by kernel_rfl) ?_ _
        refine NoPanic.normal ?_
        go_wp2
        go_ret
        exact ⟨by first | rfl | simp, hb⟩
    · have hcv := conv6 HBY.out HS.out
      go_simp
      refine hK.out _ _ ?_ (fun hHeld => ?_)
      · trivial
      clear hK K
      try simp only [Act.put, List.setIfInBounds_toArray, List.set_cons_zero, List.set_cons_succ]
      refine wpAnyH_ready (rs := [1]) (by kernel_rfl) (by simp) ?_
      refine AllReadyH.cons (o := { dst := some 19, op := Op.call { callee := Callee.value (Operand.func 18), args := #[Operand.tmp 18], argTypes := #[26] }, type := 22, pos := "law.go:117", after := #[{ on := 0, ground := Ground.data }], guard := none }) rfl (fun K hK => ?_) (AllReadyH.nil)
      go_simp
      go_at_call 18
      refine (fenc_to w.heap.size _ x l _ HD.out HC.out).mono ?_
      rintro e k3 ⟨ge, ce, rfl, hE, h⟩
      have hk : Below k2.heap.size k2 k3 := HK9 h
      have hz := h.size
      try simp at hz
      replace HBY := Lib.hid (Byt.below HBY.out hk (Nat.le_trans hB hb.size))
      replace HD := Lib.hid (Fd.below HD.out hk)
      replace hb : Below w.heap.size w k3 := hb.trans (hk.mono hb.size)
      have HEL := Lib.hid hE; clear hE
      clear h hk
      try dsimp only
      refine hK.out _ _ ?_ (fun hHeld => ?_)
      · trivial
      clear hK K
      try simp only [Act.put, List.setIfInBounds_toArray, List.set_cons_zero, List.set_cons_succ]
      refine wpAnyH_ready (rs := [2]) (by kernel_rfl) (by simp) ?_
      refine AllReadyH.cons (o := { dst := some 20, op := Op.convert 22 9 (Operand.tmp 19), type := 9, pos := "law.go:117", after := #[{ on := 1, ground := Ground.data }], guard := none }) rfl (fun K hK => ?_) (AllReadyH.nil)
      have hcv := conv6 (Byt.of_own HEL.out) HS.out
      go_simp
      refine hK.out _ _ ?_ (fun hHeld => ?_)
      · trivial
      clear hK K
      try simp only [Act.put, List.setIfInBounds_toArray, List.set_cons_zero, List.set_cons_succ]
      refine wpAnyH_ready (rs := [5]) (by kernel_rfl) (by simp) ?_
      refine AllReadyH.cons (o := { dst := some 23, op := Op.binOp BinOp.eql 9 (Operand.tmp 20) (Operand.tmp 22) 9, type := 4, pos := "law.go:117", after := #[{ on := 2, ground := Ground.data }, { on := 4, ground := Ground.data }], guard := none }) rfl (fun K hK => ?_) (AllReadyH.nil)
      go_simp
      refine hK.out _ _ ?_ (fun hHeld => ?_)
      · trivial
      clear hK K
      try simp only [Act.put, List.setIfInBounds_toArray, List.set_cons_zero, List.set_cons_succ]
      refine wpAnyH_ready (rs := [6]) (by kernel_rfl) (by simp) ?_
      refine AllReadyH.cons (o := { dst := some 2, op := Op.assign (Operand.tmp 23), type := 4, pos := "law.go:117", after := #[{ on := 5, ground := Ground.data }, { on := 1, ground := Ground.chain }, { on := 0, ground := Ground.phase }, { on := 1, ground := Ground.phase }, { on := 2, ground := Ground.phase }, { on := 3, ground := Ground.phase }, { on := 4, ground := Ground.phase }, { on := 5, ground := Ground.phase }], guard := none }) rfl (fun K hK => ?_) (AllReadyH.nil)
      go_simp
      refine hK.out _ _ ?_ (fun hHeld => ?_)
      · trivial
      clear hK K
      try simp only [Act.put, List.setIfInBounds_toArray, List.set_cons_zero, List.set_cons_succ]
      refine wpAnyH_done (by kernel_rfl) ?_ _
      refine NoPanic.normal ?_
      go_wp2
      go_ret
      exact ⟨by first | rfl | simp, hb⟩
end Go.Proofs.Ytegkhkcnoahhdaa
