/-
  The laws' helpers set, eq and cut, and the reference's functions on lists of servers.
  Lists have at most 1,000 servers, texts at most 1,000 bytes.
-/
import Derived.Test.YtbiecoifeeikpaaC12Chg
import Derived.Deep.QuietTactic
import Derived.BigQuiet
import Derived.WalkSmall
namespace Go.Proofs.Ytbiecoifeeikpaa
open Go.RowKit Go.Deep
set_option maxRecDepth 100000

def bitF (bits : Int) (k : Nat) : Bool := (bits / 2 ^ k).tmod 2 != 0
def setF (f : Nat → Bool) : List Int := ((List.range 7).filter f).map fun k : Nat => ((k : Int) + 1)
def setN (f : Nat → Bool) (n : Nat) : List Int := ((List.range n).filter f).map fun k : Nat => ((k : Int) + 1)
theorem setN_succ (f : Nat → Bool) (n : Nat) : setN f (n + 1) = setN f n ++ (if f n = true then [(n : Int) + 1] else []) := by
  unfold setN
  rw [List.range_succ, List.filter_append, List.map_append]
  congr 1
  cases h : f n <;> simp [h]
theorem setN_len (f : Nat → Bool) (n : Nat) : (setN f n).length ≤ n := by
  unfold setN
  rw [List.length_map]
  exact Nat.le_trans (List.length_filter_le _ _) (by simp)
theorem setF_may (f : Nat → Bool) : mayF 0 (setF f) = true := by
  have h : ∀ a b c d e g i : Bool, mayF 0 ((if a then [1] else []) ++ (if b then [2] else []) ++ (if c then [3] else []) ++ (if d then [4] else []) ++ (if e then [5] else []) ++ (if g then [6] else []) ++ (if i then [7] else [])) = true := by decide +kernel
  have := h (f 0) (f 1) (f 2) (f 3) (f 4) (f 5) (f 6)
  have e : setF f = setN f 7 := rfl
  rw [e, setN_succ, setN_succ, setN_succ, setN_succ, setN_succ, setN_succ, setN_succ]
  have e0 : setN f 0 = [] := rfl
  rw [e0, List.nil_append]
  exact this
theorem setF_len (f : Nat → Bool) : (setF f).length ≤ 7 := setN_len f 7
theorem OwnZ.new12 {B : Nat} {v : Value} {l : List Int} {w : World} (h : OwnZ B v l w) (o : Obj) : OwnZ B v l (w.alloc o) := h.below (below_new12 w o)
set_option maxHeartbeats 1000000 in
theorem set12_w (bits : Int) (w : World) :
    Calls Try.prog 22 #[.int .i64 bits] w fun e w' => ∃ v, e = .returned v ∧ OwnZ w.heap.size v (setF (bitF bits)) w' ∧ Below w.heap.size w w' := by
  obtain ⟨f, hf⟩ : ∃ f, bitF bits = f := ⟨_, rfl⟩
  have HF := Lib.hid hf
  rw [hf]
  clear hf
  go_enter Try.func22, Try.ntmps22
  go_wp2
  go_loopw [3, 4] (fun v i wr => ∃ k : Nat, k ≤ 7 ∧ i = .int .i64 k ∧ OwnZ w.heap.size v (setN f k) wr ∧ Below w.heap.size w wr) (fun _ i _ => 7 - (intOf i).toNat)
  case atStart => exact ⟨0, Nat.zero_le _, rfl, OwnZ.nil _ _, Below.refl _ _⟩
  case round =>
    obtain ⟨k, hk, rfl, ho, hb⟩ := hrel
    have hsl := setN_len f k
    have hss := setN_succ f k
    obtain ⟨Ao, co, hvo⟩ := ho.slice
    subst hvo
    have HO := Lib.hid ho
    have HB := Lib.hid hb
    clear ho hb
    by_cases hlt : k < 7
    · have hki : (k : Int) < 7 := by omega
      cases hfk : f k with
      | true =>
        have hbit : ((bits / 2 ^ k).tmod 2 != 0) = true := by rw [← HF.out] at hfk; exact hfk
        rw [hfk, if_pos rfl] at hss
        have HS := Lib.hid hss
        have how := HO.out.new12 (.cells #[.int .i64 ((k : Int) + 1)] 3)
        have hin := ints_new wr #[.int .i64 ((k : Int) + 1)] 3 [(k : Int) + 1] rfl
        have HOW := Lib.hid how
        have HIN := Lib.hid hin
        have hsl7 : (setN f k).length ≤ 7 := by omega
        have HSL := Lib.hid hsl7
        obtain ⟨m, hm⟩ : ∃ m, (setN f k).length = m := ⟨_, rfl⟩
        rw [hm] at HOW ⊢
        have HB2 := Lib.hid (HB.out.trans ((below_new12 wr (.cells #[.int .i64 ((k : Int) + 1)] 3)).mono HB.out.size))
        clear hss hfk how hin hsl hsl7 hm
        go_wp2_with (at_builtin; refine wpList_append_ints rfl _ _ rfl w.heap.size (wr.heap.size + 1) _ _ (setN f k) [(k : Int) + 1] rfl HOW.out rfl HIN.out ?x1 ?x2 ?_)
        case x1 => have := HSL.out; show _ + 1 ≤ _; omega
        case x2 => exact HB2.out.size
        intro v' w2 hown' hb2
        rw [← HS.out] at hown'
        have HO2 := Lib.hid hown'
        have HB3 := Lib.hid (HB2.out.trans hb2)
        clear hown' hb2
        go_wp2
        go_roundw
        case rel => exact ⟨k + 1, by omega, by go_num, HO2.out, HB3.out⟩
        case measure => simp [intOf]; omega
      | false =>
        have hbit : ((bits / 2 ^ k).tmod 2 != 0) = false := by rw [← HF.out] at hfk; exact hfk
        rw [hfk, if_neg (by decide), List.append_nil] at hss
        have HS := Lib.hid hss
        obtain ⟨m, hm⟩ : ∃ m, (setN f k).length = m := ⟨_, rfl⟩
        rw [hm] at HO ⊢
        clear hss hfk hsl hm
        go_wp2
        go_roundw
        case rel => exact ⟨k + 1, by omega, by go_num, by rw [HS.out]; exact HO.out, HB.out⟩
        case measure => simp [intOf]; omega
    · obtain rfl : k = 7 := by omega
      obtain ⟨m, hm⟩ : ∃ m, (setN f 7).length = m := ⟨_, rfl⟩
      rw [hm] at HO ⊢
      clear hsl hss hm
      go_wp2
      go_ret
      exact ⟨_, rfl, HO.out, HB.out⟩
def eqL (a b : List Int) : Bool := decide (a = b)
theorem eqL_len {a b : List Int} (h : a.length ≠ b.length) : eqL a b = false := decide_eq_false (fun e => h (by rw [e]))
theorem eqL_at {a b : List Int} (k : Nat) (h1 : k < a.length) (h2 : k < b.length) (h : a[k] ≠ b[k]) : eqL a b = false := decide_eq_false (fun e => h (by subst e; rfl))
theorem take_more12 {a b : List Int} {k : Nat} (h : a.take k = b.take k) (h1 : k < a.length) (h2 : k < b.length) (e : a[k] = b[k]) : a.take (k + 1) = b.take (k + 1) := by
  rw [List.take_succ_eq_append_getElem h1, List.take_succ_eq_append_getElem h2, h, e]
set_option maxHeartbeats 1000000 in
theorem eq12_w (A : Option Addr) (c B : Nat) (L : List Int) (A2 : Option Addr) (c2 B2 : Nat) (M : List Int) (w : World) (h : Ints w B (.slice A L.length c) L) (h2 : Ints w B2 (.slice A2 M.length c2) M) (hl : L.length ≤ 1000) (hl2 : M.length ≤ 1000) :
    Calls Try.prog 21 #[.slice A L.length c, .slice A2 M.length c2] w fun e w' => e = .returned (.bool (eqL L M)) ∧ Below w.heap.size w w' := by
  by_cases hne : L.length = M.length
  · obtain ⟨n, hn⟩ : ∃ n, L.length = n := ⟨_, rfl⟩
    have hm : M.length = n := by omega
    rw [hn] at h hl ⊢
    rw [hm] at h2 hl2 ⊢
    have HI := Lib.hid h
    have HI2 := Lib.hid h2
    have HN := Lib.hid hn
    have HM := Lib.hid hm
    clear h h2 hn hm hne hl2
    go_enter Try.func21, Try.ntmps21
    go_wp2
    go_loopw [5] (fun i wr => ∃ k : Nat, k ≤ n ∧ i = .int .i64 k ∧ L.take k = M.take k ∧ Below w.heap.size w wr) (fun i _ => n - (intOf i).toNat)
    case atStart => exact ⟨0, Nat.zero_le _, rfl, by simp, Below.refl _ _⟩
    case round =>
      obtain ⟨k, hk, rfl, hrec, hb⟩ := hrel
      have HR := Lib.hid hrec
      have HB := Lib.hid hb
      clear hrec hb
      by_cases hlt : k < n
      · have hkl : k < L.length := by rw [HN.out]; exact hlt
        have hkm : k < M.length := by rw [HM.out]; exact hlt
        obtain ⟨g, o, hA, hg, hcell⟩ := HI.out.at_ k hkl
        subst hA
        obtain ⟨g2, o2, hA2, hg2, hcell2⟩ := HI2.out.at_ k hkm
        subst hA2
        have hc1 : wr.cell? ⟨g, o + k, none⟩ = some (.int .i64 L[k]) := (HB.out.cell (p := ⟨g, o + k, none⟩) (cell_in hcell)).trans hcell
        have hc2 : wr.cell? ⟨g2, o2 + k, none⟩ = some (.int .i64 M[k]) := (HB.out.cell (p := ⟨g2, o2 + k, none⟩) (cell_in hcell2)).trans hcell2
        have hki : (0 : Int) ≤ k := by omega
        by_cases hxy : L[k] = M[k]
        · have HT := Lib.hid (take_more12 HR.out hkl hkm hxy)
          obtain ⟨x, hx⟩ : ∃ x, L[k] = x := ⟨_, rfl⟩
          rw [← hxy, hx] at hc2
          rw [hx] at hc1
          have hne : (x != x) = false := by simp
          clear hcell hcell2 hkl hkm hxy hx
          go_wp2_with fail
          go_quiet (fail)
          go_wp2
          go_roundw
          case rel => exact ⟨k + 1, by omega, by go_num, HT.out, below_drewN HB.out _⟩
          case measure => simp [intOf]; omega
        · have HE := Lib.hid (eqL_at k hkl hkm hxy)
          obtain ⟨x, hx⟩ : ∃ x, L[k] = x := ⟨_, rfl⟩
          obtain ⟨y, hy⟩ : ∃ x, M[k] = x := ⟨_, rfl⟩
          rw [hx] at hc1 hxy
          rw [hy] at hc2 hxy
          have hne : (x != y) = true := by simpa using hxy
          have hne2 : (x == y) = false := by simpa using hxy
          clear hcell hcell2 hkl hkm hx hy
          go_wp2_with fail
          go_quiet (fail)
          go_wp2
          go_ret
          exact ⟨bool_ret HE.out.symm, below_drewN HB.out _⟩
      · have hkn : k = n := by omega
        have hfin : eqL L M = true := by
          have := HR.out
          rw [List.take_of_length_le (by rw [HN.out]; omega), List.take_of_length_le (by rw [HM.out]; omega)] at this
          exact decide_eq_true this
        have HF := Lib.hid hfin
        clear hfin
        go_wp2
        go_ret
        exact ⟨bool_ret HF.out.symm, HB.out⟩
  · have hf := eqL_len hne
    obtain ⟨n, hn⟩ : ∃ n, L.length = n := ⟨_, rfl⟩
    obtain ⟨m, hm⟩ : ∃ n, M.length = n := ⟨_, rfl⟩
    rw [hn, hm] at hne
    rw [hn, hm, hf]
    rw [hn] at hl
    rw [hm] at hl2
    have hne2 : ((n : Int) == (m : Int)) = false := by simp; omega
    have hne3 : ((n : Int) != (m : Int)) = true := by simp; omega
    clear h h2 hn hm hf
    go_enter Try.func21, Try.ntmps21
    go_wp2
    go_ret
    exact ⟨rfl, Below.refl _ _⟩
set_option maxHeartbeats 1000000 in
theorem cut12_w (A : Option Addr) (c B : Nat) (L : List Int) (w : World) (h : Ints w B (.slice A L.length c) L) :
    Calls Try.prog 8 #[.slice A L.length c] w fun e w' => (∃ n, e = .returned (.slice A n c) ∧ n = (L.take 12).length ∧ Ints w B (.slice A n c) (L.take 12)) ∧ w = w' := by
  have hcap := h.cap.2
  by_cases h12 : 12 < L.length
  · have ht := h.take 12 (by omega)
    have hln : (L.take 12).length = 12 := by simp; omega
    obtain ⟨n, hn⟩ : ∃ n, L.length = n := ⟨_, rfl⟩
    rw [hn] at hcap h12 ⊢
    have h12i : (12 : Int) < n := by omega
    have HT := Lib.hid ht
    have HL := Lib.hid hln
    have hc12 : ¬ c < 12 := by omega
    have hc12i : ¬ (c : Int) < 12 := by omega
    clear h ht hln hn
    go_enter Try.func8, Try.ntmps8
    go_wp2
    go_ret
    exact ⟨⟨12, rfl, by have := HL.out; rw [List.length_take] at this; exact this.symm, HT.out⟩, rfl⟩
  · have ht : L.take 12 = L := List.take_of_length_le (by omega)
    rw [ht]
    obtain ⟨n, hn⟩ : ∃ n, L.length = n := ⟨_, rfl⟩
    rw [hn] at h hcap h12 ⊢
    have h12i : ¬ (12 : Int) < n := by omega
    have HT := Lib.hid h
    clear h ht hn
    go_enter Try.func8, Try.ntmps8
    go_wp2
    go_ret
    exact ⟨⟨n, rfl, rfl, HT.out⟩, rfl⟩
end Go.Proofs.Ytbiecoifeeikpaa
