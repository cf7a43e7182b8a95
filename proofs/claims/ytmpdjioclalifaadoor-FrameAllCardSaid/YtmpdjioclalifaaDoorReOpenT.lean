/-
  The last part of the reference's Open: the bytes are long enough.
  The bytes are there in memory, at most 1,000,000.
-/
import Derived.Test.YtmpdjioclalifaaDoorReOpenP
import Derived.Deep.RegionWith
set_option linter.unusedSimpArgs false
set_option linter.unusedVariables false
namespace Go.Proofs.YtmpdjioclalifaaDoor
open Go.RowKit
set_option maxRecDepth 100000

set_option maxHeartbeats 1000000 in
theorem ropen_tail (g o c B k m : Nat) (x : UInt8) (t : List UInt8) (w : World) (hB : B ≤ w.heap.size) (hg : g < B) (hl : t.length + 1 ≤ 1000000) (hc : t.length + 1 ≤ c) (HC : Hid (∀ j (h : j < (x :: t).length), w.cell? ⟨g, o + j, none⟩ = some (.int .u8 ((x :: t)[j].toNat : Int))))
    (hx0 : w.cell? ⟨g, o, none⟩ = some (.int .u8 (x.toNat : Int))) (HZ : Hid (¬ x.toNat = 0)) (hz2 : ((x.toNat : Int) == 0) = false) (HCUT : Hid (Byt w B (.slice (some ⟨g, o + 1, none⟩) t.length (c - 1)) t)) (HGG : Hid (Nu.get t = ((m : Int), k, 0))) (hm4 : m ≤ 4000) (hfit : 1 + k + 4 + m ≤ t.length + 1) (hcap : 1 + k + 4 < c) (hc1 : 1 < c)
    (HOP : Hid (openB (x :: t) = if sealB x.toNat (((x :: t).drop (1 + k + 4)).take m) ≠ (x :: t).take (1 + k + 4 + m) then (0, [], 0, 3) else (x.toNat, ((x :: t).drop (1 + k + 4)).take m, 1 + k + 4 + m, 0))) :
    Calls Tryd.prog 16 #[.slice (some ⟨g, o, none⟩) (t.length + 1) c] w (GotF B (openB (x :: t)) w) := by
  have hb := x.toNat_lt
  have hbyb : Byt w B (.slice (some ⟨g, o + (1 + k + 4), none⟩) m (c - (1 + k + 4))) (((x :: t).drop (1 + k + 4)).take m) := by
    have hlm : (((x :: t).drop (1 + k + 4)).take m).length = m := by rw [List.length_take, List.length_drop, List.length_cons]; omega
    refine ⟨some ⟨g, o + (1 + k + 4), none⟩, c - (1 + k + 4), by rw [hlm], by rw [hlm]; omega, fun _ => ⟨g, o + (1 + k + 4), rfl, hg, fun j hj => ?_⟩⟩
    rw [hlm] at hj
    rw [Nat.add_assoc, HC.out (1 + k + 4 + j) (by rw [List.length_cons]; omega), List.getElem_take, List.getElem_drop]
  obtain ⟨bd, hbd⟩ : ∃ bd, (((x :: t).drop (1 + k + 4)).take m) = bd := ⟨_, rfl⟩
  obtain ⟨P, hP⟩ : ∃ P, (x :: t).take (1 + k + 4 + m) = P := ⟨_, rfl⟩
  obtain ⟨S, hS⟩ : ∃ S, sealB (x.toNat : Int) bd = S := ⟨_, rfl⟩
  have hbl : bd.length ≤ 4000 := by rw [← hbd, List.length_take]; omega
  have hbl2 : bd.length ≤ 1000000 := by omega
  rw [hbd] at hbyb
  have hop3 : openB (x :: t) = if S ≠ P then (0, [], 0, 3) else (x.toNat, bd, 1 + k + 4 + m, 0) := by
    rw [HOP.out, ← hP, ← hS, ← hbd]
  have hS1 : 1 ≤ S.length := by
    rw [← hS]; unfold sealB; rw [if_neg (by have := HZ.out; omega)]; unfold headB; simp; try omega
  have kp : ∀ W, Below w.heap.size w W → (convert 22 9 (.slice (some ⟨g, o, none⟩) (1 + k + 4 + m) c)).run Tryd.prog W = .ok (.string ⟨P.toArray⟩) W := fun W hW => by
    rw [← hP]
    exact conv_cells W g o _ (x :: t) (1 + k + 4 + m) (by rw [List.length_cons]; omega) (fun j hj => (hW.cell (p := ⟨g, o + j, none⟩) (Nat.lt_of_lt_of_le hg hB)).trans (HC.out j hj))
  have kp0 := kp w.drew (Below.refl _ _).drew
  have hbd0 : Byt w.drew B (.slice (some ⟨g, o + (1 + k + 4), none⟩) m (c - (1 + k + 4))) bd := hbyb
  have hx00 : w.drew.cell? ⟨g, o, none⟩ = some (.int .u8 (x.toNat : Int)) := hx0
  have hBd : B ≤ w.drew.heap.size := hB
  have HKP := Lib.hid kp
  have hgg : w.drew.heap.size = w.heap.size := rfl
  have hlc : (t.length : Int) + 1 ≤ (c : Int) := by omega
  have htl : t.length ≤ 1000000 := by omega
  have hm4' : (m : Int) ≤ 4000 := by omega
  have hk6 : (k : Int) ≤ 1000000 := by omega
  have hsh2 : 1 + (k : Int) + 4 + (m : Int) ≤ (t.length : Int) + 1 := by omega
  have ib1 : (0 : Int) ≤ 1 + (k : Int) + 4 + (m : Int) := by omega
  have ib2 : 1 + (k : Int) + 4 + (m : Int) ≤ (c : Int) := by omega
  have hwx : IntKind.i64.wrap (x.toNat : Int) = (x.toNat : Int) := IntWalk.i64_in _ (by omega)
  have hw1 : IntKind.i64.wrap (1 + (k : Int) + 4 + (m : Int)) = 1 + (k : Int) + 4 + (m : Int) := IntWalk.i64_in _ (by omega)
  have hw2 : (1 + (k : Int) + 4 + (m : Int)).toNat = 1 + k + 4 + m := by omega
  have HOP3 := Lib.hid hop3; have HS := Lib.hid hS; have HS1 := Lib.hid hS1
  have HBD := Lib.hid hbd0; have HBY := Lib.hid hbyb
  clear hbd hP hop3 hS hS1 HOP kp hbd0 hbyb hgg
  by_cases hSP : S = P
  · subst hSP
    have hf : openB (x :: t) = (x.toNat, bd, 1 + k + 4 + m, 0) := by rw [HOP3.out, if_neg (by simp)]
    have HF := Lib.hid hf; clear hf
    go_enter Tryd.func16, Tryd.ntmps16
    go_wp2_with fail
    refine (rget_n _ _ _ B t m k 0 w HCUT.out htl HGG.out).mono ?_
    rintro e' w' ⟨rfl, rfl⟩
    go_wp2_with fail
    go_region_with (first | (go_at_call 12; refine (rseal_is _ _ B bd S _ HBD.out hBd hbl2 HS.out).mono ?_; rintro e w3 ⟨v3, rfl, hown3, hb3'⟩; have hb3 : Below w.heap.size w w3 := (Below.refl _ _).drew.trans hb3'; have kv := conv_own hown3 HS1.out; have kps := HKP.out w3 hb3; have hxs := (hb3.cell (p := ⟨g, o, none⟩) (Nat.lt_of_lt_of_le hg hB)).trans hx0))
    all_goals
      go_wp2
      refine bodyPost_ret (v := .tuple #[.int .i64 x.toNat, .slice (some ⟨g, o + (1 + k + 4), none⟩) m (c - (1 + k + 4)), .int .i64 ((1 + k + 4 + m : Nat) : Int), .int .i64 0]) (by simp [results, Tryd.results16, go_sem]) rfl ⟨_, by rw [HF.out]; rfl, by rw [HF.out]; exact HBY.out.below hb3 hB, hb3⟩
  · have hf : openB (x :: t) = (0, [], 0, 3) := by rw [HOP3.out, if_pos hSP]
    have hne : (S == P) = false := by simpa using hSP
    have HF := Lib.hid hf; have HSP := Lib.hid hSP; clear hf hSP
    go_enter Tryd.func16, Tryd.ntmps16
    go_wp2_with fail
    refine (rget_n _ _ _ B t m k 0 w HCUT.out htl HGG.out).mono ?_
    rintro e' w' ⟨rfl, rfl⟩
    go_wp2_with fail
    go_region_with (first | (go_at_call 12; refine (rseal_is _ _ B bd S _ HBD.out hBd hbl2 HS.out).mono ?_; rintro e w3 ⟨v3, rfl, hown3, hb3'⟩; have hb3 : Below w.heap.size w w3 := (Below.refl _ _).drew.trans hb3'; have kv := conv_own hown3 HS1.out; have kps := HKP.out w3 hb3; have hxs := (hb3.cell (p := ⟨g, o, none⟩) (Nat.lt_of_lt_of_le hg hB)).trans hx0))
    all_goals
      go_wp2
      refine bodyPost_ret (v := .tuple #[.int .i64 0, .slice none 0 0, .int .i64 0, .int .i64 3]) (by simp [results, Tryd.results16, go_sem]) rfl ⟨_, by rw [HF.out]; rfl, by rw [HF.out]; exact byt_nil _ _, hb3⟩
set_option maxHeartbeats 1000000 in
theorem ropen_tail0 (g o B k : Nat) (x : UInt8) (t : List UInt8) (w : World) (hB : B ≤ w.heap.size) (hg : g < B) (hl : t.length + 1 ≤ 1000000) (HC : Hid (∀ j (h : j < (x :: t).length), w.cell? ⟨g, o + j, none⟩ = some (.int .u8 ((x :: t)[j].toNat : Int))))
    (hx0 : w.cell? ⟨g, o, none⟩ = some (.int .u8 (x.toNat : Int))) (HZ : Hid (¬ x.toNat = 0)) (hz2 : ((x.toNat : Int) == 0) = false) (HCUT : Hid (Byt w B (.slice (some ⟨g, o + 1, none⟩) t.length t.length) t)) (HGG : Hid (Nu.get t = (0, k, 0))) (hfit : 1 + k + 4 = t.length + 1)
    (HOP : Hid (openB (x :: t) = if sealB x.toNat (((x :: t).drop (1 + k + 4)).take 0) ≠ (x :: t).take (1 + k + 4) then (0, [], 0, 3) else (x.toNat, ((x :: t).drop (1 + k + 4)).take 0, 1 + k + 4, 0))) :
    Calls Tryd.prog 16 #[.slice (some ⟨g, o, none⟩) (t.length + 1) (t.length + 1)] w (GotF B (openB (x :: t)) w) := by
  have hb := x.toNat_lt
  have hbyb : Byt w B (.slice (some ⟨g, o, none⟩) 0 0) (((x :: t).drop (1 + k + 4)).take 0) := ⟨some ⟨g, o, none⟩, 0, rfl, Nat.le_refl _, fun h => absurd h (by simp)⟩
  obtain ⟨bd, hbd⟩ : ∃ bd, (((x :: t).drop (1 + k + 4)).take 0) = bd := ⟨_, rfl⟩
  obtain ⟨P, hP⟩ : ∃ P, (x :: t).take (1 + k + 4) = P := ⟨_, rfl⟩
  obtain ⟨S, hS⟩ : ∃ S, sealB (x.toNat : Int) bd = S := ⟨_, rfl⟩
  have hbl : bd.length ≤ 4000 := by rw [← hbd, List.length_take]; omega
  have hbl2 : bd.length ≤ 1000000 := by omega
  rw [hbd] at hbyb
  have hop3 : openB (x :: t) = if S ≠ P then (0, [], 0, 3) else (x.toNat, bd, 1 + k + 4, 0) := by
    rw [HOP.out, ← hP, ← hS, ← hbd]
  have hS1 : 1 ≤ S.length := by
    rw [← hS]; unfold sealB; rw [if_neg (by have := HZ.out; omega)]; unfold headB; simp; try omega
  have kp : ∀ W, Below w.heap.size w W → (convert 22 9 (.slice (some ⟨g, o, none⟩) (t.length + 1) (t.length + 1))).run Tryd.prog W = .ok (.string ⟨P.toArray⟩) W := fun W hW => by
    rw [← hP, hfit]
    exact conv_cells W g o _ (x :: t) (t.length + 1) (by rw [List.length_cons]; omega) (fun j hj => (hW.cell (p := ⟨g, o + j, none⟩) (Nat.lt_of_lt_of_le hg hB)).trans (HC.out j hj))
  have kp0 := kp w.drew (Below.refl _ _).drew
  have hbd0 : Byt w.drew B (.slice (some ⟨g, o, none⟩) 0 0) bd := hbyb
  have hx00 : w.drew.cell? ⟨g, o, none⟩ = some (.int .u8 (x.toNat : Int)) := hx0
  have hBd : B ≤ w.drew.heap.size := hB
  have HKP := Lib.hid kp
  have hgg : w.drew.heap.size = w.heap.size := rfl
  have htl : t.length ≤ 1000000 := by omega
  have ht0 : 0 < t.length := by omega
  have ht1 : ¬ t.length = 0 := by omega
  have hk6 : (k : Int) ≤ 1000000 := by omega
  have hsh2 : 1 + (k : Int) + 4 ≤ (t.length : Int) + 1 := by omega
  have ib1 : (0 : Int) ≤ 1 + (k : Int) + 4 := by omega
  have ib2 : 1 + (k : Int) + 4 ≤ 1 + (k : Int) + 4 := by omega
  have hwx : IntKind.i64.wrap (x.toNat : Int) = (x.toNat : Int) := IntWalk.i64_in _ (by omega)
  have hw1 : IntKind.i64.wrap (1 + (k : Int) + 4) = 1 + (k : Int) + 4 := IntWalk.i64_in _ (by omega)
  have hw2 : (1 + (k : Int) + 4).toNat = t.length + 1 := by omega
  have HOP3 := Lib.hid hop3; have HS := Lib.hid hS; have HS1 := Lib.hid hS1
  have HBD := Lib.hid hbd0; have HBY := Lib.hid hbyb
  clear hbd hP hop3 hS hS1 HOP kp hbd0 hbyb hgg
  by_cases hSP : S = P
  · subst hSP
    have hf : openB (x :: t) = (x.toNat, bd, 1 + k + 4, 0) := by rw [HOP3.out, if_neg (by simp)]
    have HF := Lib.hid hf; clear hf
    go_enter Tryd.func16, Tryd.ntmps16
    go_wp2_with fail
    refine (rget_n _ _ _ B t 0 k 0 w HCUT.out htl HGG.out).mono ?_
    rintro e' w' ⟨rfl, rfl⟩
    go_wp2_with fail
    go_region_with (first | (go_at_call 12; refine (rseal_is _ _ B bd S _ HBD.out hBd hbl2 HS.out).mono ?_; rintro e w3 ⟨v3, rfl, hown3, hb3'⟩; have hb3 : Below w.heap.size w w3 := (Below.refl _ _).drew.trans hb3'; have kv := conv_own hown3 HS1.out; have kps := HKP.out w3 hb3; have hxs := (hb3.cell (p := ⟨g, o, none⟩) (Nat.lt_of_lt_of_le hg hB)).trans hx0))
    all_goals
      go_wp2
      refine bodyPost_ret (v := .tuple #[.int .i64 x.toNat, .slice (some ⟨g, o, none⟩) 0 0, .int .i64 ((1 + k + 4 : Nat) : Int), .int .i64 0]) (by simp [results, Tryd.results16, go_sem]) rfl ⟨_, by rw [HF.out]; rfl, by rw [HF.out]; exact HBY.out.below hb3 hB, hb3⟩
  · have hf : openB (x :: t) = (0, [], 0, 3) := by rw [HOP3.out, if_pos hSP]
    have hne : (S == P) = false := by simpa using hSP
    have HF := Lib.hid hf; have HSP := Lib.hid hSP; clear hf hSP
    go_enter Tryd.func16, Tryd.ntmps16
    go_wp2_with fail
    refine (rget_n _ _ _ B t 0 k 0 w HCUT.out htl HGG.out).mono ?_
    rintro e' w' ⟨rfl, rfl⟩
    go_wp2_with fail
    go_region_with (first | (go_at_call 12; refine (rseal_is _ _ B bd S _ HBD.out hBd hbl2 HS.out).mono ?_; rintro e w3 ⟨v3, rfl, hown3, hb3'⟩; have hb3 : Below w.heap.size w w3 := (Below.refl _ _).drew.trans hb3'; have kv := conv_own hown3 HS1.out; have kps := HKP.out w3 hb3; have hxs := (hb3.cell (p := ⟨g, o, none⟩) (Nat.lt_of_lt_of_le hg hB)).trans hx0))
    all_goals
      go_wp2
      refine bodyPost_ret (v := .tuple #[.int .i64 0, .slice none 0 0, .int .i64 0, .int .i64 3]) (by simp [results, Tryd.results16, go_sem]) rfl ⟨_, by rw [HF.out]; rfl, by rw [HF.out]; exact byt_nil _ _, hb3⟩
end Go.Proofs.YtmpdjioclalifaaDoor
