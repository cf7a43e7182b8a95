import Derived.Test.YtegkhkcnoahhdaaGreatL7Begun
set_option linter.unusedSimpArgs false
set_option linter.unusedVariables false
namespace Go.Proofs.YtegkhkcnoahhdaaGreat
open Lib (hid)
open Go.RowKit
set_option maxRecDepth 100000
theorem decF_back {l : List UInt8} {f : Fo} (hl : l.length ≤ 1000000) (hg : FoG f) (h : decF l = some f) : bytesF f = l := by
 have e : f.d = (rdF l).2.1 := by
  have h2 := h
  unfold decF at h2
  generalize rdF l = r at h2 ⊢
  by_cases hc : (r.2.2.2.2 = true ∨ 0 < r.2.2.2.1.length ∨ mayF r.1 (laAt r.2.2.1) = false)
  ·rw [if_pos hc] at h2; exact absurd h2 (by simp)
  ·rw [if_neg hc] at h2
   have h3 := Option.some.inj h2
   exact (congrArg Fo.d h3).symm
 exact (decF_yes hl (by rw [← e]; exact hg.d) h).2.1
set_option maxHeartbeats 1000000 in
theorem tells7_any (A : Option Addr) (n c B : Nat) (l : List UInt8) (w : World) (h : Byt w B (.slice A n c) l) (hB : B ≤ w.heap.size) (hl : l.length ≤ 1000000) :
  Calls Tryz.prog 19 #[.slice A n c] w fun e w' => e = .returned (.bool true) ∧ Below w.heap.size w w' := by
 have hb := Below.refl w.heap.size w
 obtain ⟨o, ho⟩ : ∃ o, decF l = o := ⟨_, rfl⟩
 have HBY := hid h; clear h
 cases o with
 | none =>
  have HO := hid ho; clear ho
  go_enter Tryz.func19, Tryz.ntmps19
  go_wp2_with fail
  refine (fdec_no A n c B l _ HBY.out hB hl HO.out).mono ?_
  rintro e k1 ⟨rfl, h⟩
  have hk : Below w.heap.size w k1 := HK9 h
  have hz := h.size
  try simp at hz
  replace hb : Below w.heap.size w k1 := hb.trans (hk.mono hb.size)
  clear h hk
  go_wp2
  go_ret
  exact ⟨rfl, hb⟩
 | some x =>
  have HO := hid ho; clear ho
  obtain ⟨S, hS⟩ : ∃ S : ByteArray, ⟨l.toArray⟩ = S := ⟨_, rfl⟩
  have HS := hid hS; clear hS
  go_enter Tryz.func19, Tryz.ntmps19
  go_wp2_with fail
  refine (fdec_yes A n c w.heap.size B l x _ HBY.out hB (Nat.le_refl _) hl HO.out).mono ?_
  rintro e k1 ⟨g, rfl, ⟨hd, hgl⟩, h⟩
  have hk : Below w.heap.size w k1 := HK9 h
  have hz := h.size
  try simp at hz
  replace HBY := hid (Byt.below HBY.out hk (Nat.le_trans hB hb.size))
  replace hb : Below w.heap.size w k1 := hb.trans (hk.mono hb.size)
  clear h hk
  have HD := hid hd
  have hltHD : g < k1.heap.size := HD.out.lt
  have hcn := decF_back hl hd.good HO.out
  have HC := hid hcn; clear hcn hd
  go_wp2_with fail
  replace HBY := hid (Byt.below HBY.out ((Below.refl k1.heap.size k1).drew) (Nat.le_trans hB hb.size))
  replace HD := hid (Fd.below HD.out ((Below.refl k1.heap.size k1).drew))
  refine wp_region_noPanic ?_
  refine wp_region_held_drew (S := fun W => True) (by kernel_rfl) ?_ (fun hHeld => ?_)
  ·trivial
  replace hb : Below w.heap.size w k1.drew := hb.drew
  have hzd : k1.heap.size ≤ k1.drew.heap.size := Nat.le_refl _
  generalize k1.drew = k2 at *
  refine tk9 0 (.pointer (some ⟨g, 0, none⟩)) rfl (fun w hSw => ?_) ?_
  ·(try dsimp only at hSw)
   go_simp
  try simp only [P9]
  refine tk9 3 (.slice A n c) rfl (fun w hSw => ?_) ?_
  ·(try dsimp only at hSw)
   go_simp
  try simp only [P9]
  refine wpAnyH_ready (rs := [1, 4]) (by kernel_rfl) (by simp) ?_
  refine AllReadyH.cons (o := _) rfl (fun K hK => ?_) (AllReadyH.cons (o := _) rfl (fun K hK => ?_) (AllReadyH.nil))
  ·go_simp
   go_at_call 14
   refine (fenc_to w.heap.size _ x l _ HD.out HC.out).mono ?_
   rintro e k3 ⟨ge, ce, rfl, hE, h⟩
   have hk : Below k2.heap.size k2 k3 := HK9 h
   have hz := h.size
   try simp at hz
   replace HBY := hid (Byt.below HBY.out hk (Nat.le_trans hB hb.size))
   replace HD := hid (Fd.below HD.out hk)
   replace hb : Below w.heap.size w k3 := hb.trans (hk.mono hb.size)
   have HEL := hid hE; clear hE
   clear h hk
   try dsimp only
   refine hK.out _ _ ?_ (fun hHeld => ?_)
   ·trivial
   clear hK K
   try simp only [P9]
   refine wpAnyH_ready (rs := [2, 4]) (by kernel_rfl) (by simp) ?_
   refine AllReadyH.cons (o := _) rfl (fun K hK => ?_) (AllReadyH.cons (o := _) rfl (fun K hK => ?_) (AllReadyH.nil))
   ·have hcv := conv6 (Byt.of_own HEL.out) HS.out
    go_simp
    refine hK.out _ _ ?_ (fun hHeld => ?_)
    ·trivial
    clear hK K
    try simp only [P9]
    refine wpAnyH_ready (rs := [4]) (by kernel_rfl) (by simp) ?_
    refine AllReadyH.cons (o := _) rfl (fun K hK => ?_) (AllReadyH.nil)
    have hcv := conv6 HBY.out HS.out
    go_simp
    refine hK.out _ _ ?_ (fun hHeld => ?_)
    ·trivial
    clear hK K
    try simp only [P9]
    refine wpAnyH_ready (rs := [5]) (by kernel_rfl) (by simp) ?_
    refine AllReadyH.cons (o := _) rfl (fun K hK => ?_) (AllReadyH.nil)
    go_simp
    refine hK.out _ _ ?_ (fun hHeld => ?_)
    ·trivial
    clear hK K
    try simp only [P9]
    refine wpAnyH_ready (rs := [6]) (by kernel_rfl) (by simp) ?_
    refine AllReadyH.cons (o := _) rfl (fun K hK => ?_) (AllReadyH.nil)
    go_simp
    refine hK.out _ _ ?_ (fun hHeld => ?_)
    ·trivial
    clear hK K
    try simp only [P9]
    refine wpAnyH_done (by kernel_rfl) ?_ _
    refine NoPanic.normal ?_
    go_wp2
    go_ret
    exact ⟨by first | rfl | simp, hb⟩
   ·have hcv := conv6 HBY.out HS.out
    go_simp
    refine hK.out _ _ ?_ (fun hHeld => ?_)
    ·trivial
    clear hK K
    try simp only [P9]
    refine wpAnyH_ready (rs := [2]) (by kernel_rfl) (by simp) ?_
    refine AllReadyH.cons (o := _) rfl (fun K hK => ?_) (AllReadyH.nil)
    have hcv := conv6 (Byt.of_own HEL.out) HS.out
    go_simp
    refine hK.out _ _ ?_ (fun hHeld => ?_)
    ·trivial
    clear hK K
    try simp only [P9]
    refine wpAnyH_ready (rs := [5]) (by kernel_rfl) (by simp) ?_
    refine AllReadyH.cons (o := _) rfl (fun K hK => ?_) (AllReadyH.nil)
    go_simp
    refine hK.out _ _ ?_ (fun hHeld => ?_)
    ·trivial
    clear hK K
    try simp only [P9]
    refine wpAnyH_ready (rs := [6]) (by kernel_rfl) (by simp) ?_
    refine AllReadyH.cons (o := _) rfl (fun K hK => ?_) (AllReadyH.nil)
    go_simp
    refine hK.out _ _ ?_ (fun hHeld => ?_)
    ·trivial
    clear hK K
    try simp only [P9]
    refine wpAnyH_done (by kernel_rfl) ?_ _
    refine NoPanic.normal ?_
    go_wp2
    go_ret
    exact ⟨by first | rfl | simp, hb⟩
  ·have hcv := conv6 HBY.out HS.out
   go_simp
   refine hK.out _ _ ?_ (fun hHeld => ?_)
   ·trivial
   clear hK K
   try simp only [P9]
   refine wpAnyH_ready (rs := [1]) (by kernel_rfl) (by simp) ?_
   refine AllReadyH.cons (o := _) rfl (fun K hK => ?_) (AllReadyH.nil)
   go_simp
   go_at_call 14
   refine (fenc_to w.heap.size _ x l _ HD.out HC.out).mono ?_
   rintro e k3 ⟨ge, ce, rfl, hE, h⟩
   have hk : Below k2.heap.size k2 k3 := HK9 h
   have hz := h.size
   try simp at hz
   replace HBY := hid (Byt.below HBY.out hk (Nat.le_trans hB hb.size))
   replace HD := hid (Fd.below HD.out hk)
   replace hb : Below w.heap.size w k3 := hb.trans (hk.mono hb.size)
   have HEL := hid hE; clear hE
   clear h hk
   try dsimp only
   refine hK.out _ _ ?_ (fun hHeld => ?_)
   ·trivial
   clear hK K
   try simp only [P9]
   refine wpAnyH_ready (rs := [2]) (by kernel_rfl) (by simp) ?_
   refine AllReadyH.cons (o := _) rfl (fun K hK => ?_) (AllReadyH.nil)
   have hcv := conv6 (Byt.of_own HEL.out) HS.out
   go_simp
   refine hK.out _ _ ?_ (fun hHeld => ?_)
   ·trivial
   clear hK K
   try simp only [P9]
   refine wpAnyH_ready (rs := [5]) (by kernel_rfl) (by simp) ?_
   refine AllReadyH.cons (o := _) rfl (fun K hK => ?_) (AllReadyH.nil)
   go_simp
   refine hK.out _ _ ?_ (fun hHeld => ?_)
   ·trivial
   clear hK K
   try simp only [P9]
   refine wpAnyH_ready (rs := [6]) (by kernel_rfl) (by simp) ?_
   refine AllReadyH.cons (o := _) rfl (fun K hK => ?_) (AllReadyH.nil)
   go_simp
   refine hK.out _ _ ?_ (fun hHeld => ?_)
   ·trivial
   clear hK K
   try simp only [P9]
   refine wpAnyH_done (by kernel_rfl) ?_ _
   refine NoPanic.normal ?_
   go_wp2
   go_ret
   exact ⟨by first | rfl | simp, hb⟩
end Go.Proofs.YtegkhkcnoahhdaaGreat
