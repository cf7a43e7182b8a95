/-
  The reference's Change says what the plain function says.
  Lists have at most 1,000 servers.
-/
import Derived.Test.YtbiecoifeeikpaaC12Ref2
namespace Go.Proofs.Ytbiecoifeeikpaa
open Go.RowKit Go.Deep
set_option maxRecDepth 100000

set_option maxHeartbeats 2000000 in
theorem rchange12_yes (A : Option Addr) (c B : Nat) (L : List Int) (x : Int) (add : Bool) (w : World) (h : Ints w B (.slice A L.length c) L) (hB : B ≤ w.heap.size) (hl : L.length ≤ 1000) (hm : may12 L = true) (h1 : 1 ≤ x) (h7 : x ≤ 7) (hne : L.contains x ≠ add) :
    Calls Try.prog 11 #[.slice A L.length c, .int .i64 x, .bool add] w (Chg12 (chg12 L x add, decide (0 < (chg12 L x add).length)) w) := by
  have m1 := rmay12_w A c B L w h hl
  rw [hm] at m1
  have HH := fun y W hW => rhas12_w A c B L y W hW hl
  have hcb : L.contains x = !add := by cases hb : L.contains x <;> cases add <;> simp_all
  obtain ⟨f, hf⟩ : ∃ f : Nat → Bool, (fun k : Nat => chgB L x add ((k : Int) + 1)) = f := ⟨_, rfl⟩
  have hchg : chg12 L x add = setN f 7 := by rw [chg_setN, hf]
  rw [hchg]
  obtain ⟨n, hn⟩ : ∃ n, L.length = n := ⟨_, rfl⟩
  rw [hn] at m1 h HH hl ⊢
  have HI := Lib.hid h
  have HHH := Lib.hid HH
  have HCB := Lib.hid hcb
  have HF := Lib.hid hf
  have hx1 : ¬ x < 1 := by omega
  have hx7 : ¬ 7 < x := by omega
  clear h HH hn hm hne hcb hf hchg
  go_enter Try.func11, Try.ntmps11
  go_wp2_with fail
  refine m1.mono ?_
  rintro e w1 ⟨rfl, hw1⟩
  have H1 := Lib.hid hw1
  have hh1 := HHH.out x w1 (HI.out.keep hw1 hB)
  rw [HCB.out] at hh1
  clear hw1 m1
  go_wp2_with fail
  refine hh1.mono ?_
  rintro e w2 ⟨rfl, rfl⟩
  have hna : ((!add) == add) = false := by cases add <;> rfl
  clear hh1
  go_wp2
  go_loopw [8, 9] (fun v i wr => ∃ k : Nat, k ≤ 7 ∧ i = .int .i64 ((k : Int) + 1) ∧ OwnZ w.heap.size v (setN f k) wr ∧ Below w.heap.size w wr) (fun _ i _ => 8 - (intOf i).toNat)
  case atStart => exact ⟨0, Nat.zero_le _, rfl, OwnZ.nil _ _, H1.out⟩
  case round =>
    obtain ⟨k, hk, rfl, ho, hb⟩ := hrel
    have hsl := setN_len f k
    have hss := setN_succ f k
    obtain ⟨Ao, co, hvo⟩ := ho.slice
    subst hvo
    have HO := Lib.hid ho
    have HB := Lib.hid hb
    clear ho hb
    by_cases hlt : k < 7
    · have hki : ¬ (7 : Int) < (k : Int) + 1 := by omega
      have hki2 : (k : Int) + 1 ≤ 7 := by omega
      have hsl7 : (setN f k).length ≤ 7 := by omega
      have HSL := Lib.hid hsl7
      have HSS := Lib.hid hss
      obtain ⟨m, hm⟩ : ∃ m, (setN f k).length = m := ⟨_, rfl⟩
      have how := HO.out.new12 (.cells #[.int .i64 ((k : Int) + 1)] 3)
      have hin := ints_new wr #[.int .i64 ((k : Int) + 1)] 3 [(k : Int) + 1] rfl
      have hb2 := HB.out.trans ((below_new12 wr (.cells #[.int .i64 ((k : Int) + 1)] 3)).mono HB.out.size)
      rw [hm] at HO how ⊢
      have HOW := Lib.hid how
      have HIN := Lib.hid hin
      have HB2 := Lib.hid hb2
      clear hss hsl hsl7 hm how hin hb2
      have hhk := HHH.out ((k : Int) + 1) wr (HI.out.keep HB.out hB)
      by_cases he : (k : Int) + 1 = x
      · subst he
        cases add with
        | true =>
          have hfk : f k = true := by rw [← HF.out]; unfold chgB; simp
          have HS := Lib.hid (show setN f (k + 1) = setN f k ++ [(k : Int) + 1] by rw [HSS.out, hfk, if_pos rfl])
          clear hfk hhk
          go_wp2_with (at_builtin; refine wpList_append_ints rfl _ _ rfl w.heap.size (wr.heap.size + 1) _ _ (setN f k) [(k : Int) + 1] rfl HOW.out rfl HIN.out ?x1 ?x2 ?_)
          case x1 => have := HSL.out; first | omega | (show _ + 1 ≤ _; omega)
          case x2 => have := HB2.out.size; first | exact this | (simp at this; omega)
          intro v' w2 hown' hb2
          rw [← HS.out] at hown'
          have HO2 := Lib.hid hown'
          have HB3 := Lib.hid (HB2.out.trans hb2)
          clear hown' hb2
          go_wp2
          go_roundw
          case rel => first | exact ⟨k + 1, by omega, by go_num, HO2.out, HB3.out⟩ | ((repeat apply Exists.intro); exact ⟨⟨k + 1, by omega, by go_num, HO2.out, HB3.out⟩, rfl⟩)
          case measure => simp [intOf]; omega
        | false =>
          have hfk : f k = false := by rw [← HF.out]; unfold chgB; simp
          have HS := Lib.hid (show setN f (k + 1) = setN f k by rw [HSS.out, hfk, if_neg (by decide), List.append_nil])
          clear hfk hhk
          go_wp2
          go_roundw
          case rel => exact ⟨k + 1, by omega, by go_num, by rw [HS.out]; exact HO.out, HB.out⟩
          case measure => simp [intOf]; omega
      · have hee : (((k : Int) + 1) == x) = false := by simpa using he
        have hee2 : (((k : Int) + 1) != x) = true := by simpa using he
        have hfk9 : f k = L.contains ((k : Int) + 1) := by rw [← HF.out]; unfold chgB; simp [he]
        cases hb : L.contains ((k : Int) + 1) with
        | true =>
          rw [hb] at hhk hfk9
          have HS := Lib.hid (show setN f (k + 1) = setN f k ++ [(k : Int) + 1] by rw [HSS.out, hfk9, if_pos rfl])
          clear hfk9 he hb
          go_wp2_with fail
          refine hhk.mono ?_
          rintro e w3 ⟨rfl, rfl⟩
          go_wp2_with (at_builtin; refine wpList_append_ints rfl _ _ rfl w.heap.size (wr.heap.size + 1) _ _ (setN f k) [(k : Int) + 1] rfl HOW.out rfl HIN.out ?x1 ?x2 ?_)
          case x1 => have := HSL.out; first | omega | (show _ + 1 ≤ _; omega)
          case x2 => have := HB2.out.size; first | exact this | (simp at this; omega)
          intro v' w2 hown' hb2
          rw [← HS.out] at hown'
          have HO2 := Lib.hid hown'
          have HB3 := Lib.hid (HB2.out.trans hb2)
          clear hown' hb2
          go_wp2
          go_roundw
          case rel => exact ⟨k + 1, by omega, by go_num, HO2.out, HB3.out⟩
          case measure => simp [intOf]; omega
        | false =>
          rw [hb] at hhk hfk9
          have HS := Lib.hid (show setN f (k + 1) = setN f k by rw [HSS.out, hfk9, if_neg (by decide), List.append_nil])
          clear hfk9 he hb
          go_wp2_with fail
          refine hhk.mono ?_
          rintro e w3 ⟨rfl, rfl⟩
          go_wp2
          go_roundw
          case rel => exact ⟨k + 1, by omega, by go_num, by rw [HS.out]; exact HO.out, HB.out⟩
          case measure => simp [intOf]; omega
    · obtain rfl : k = 7 := by omega
      have hin := Ints.of_own HO.out
      have HIN := Lib.hid hin
      obtain ⟨m, hm⟩ : ∃ m, (setN f 7).length = m := ⟨_, rfl⟩
      rw [hm] at HO ⊢
      have HMM := Lib.hid hm
      clear hsl hss hm hin
      have hdm : (0 : Int) ≤ m := by omega
      go_wp2
      go_ret2
      refine ⟨HB.out, Ao, co, ?_, HIN.out⟩
      show _ = Ending.returned (Value.tuple #[Value.slice Ao (setN f 7).length co, Value.bool (decide (0 < (setN f 7).length))])
      rw [HMM.out]
      rfl
set_option maxHeartbeats 1000000 in
theorem rchange12_w (A : Option Addr) (c B : Nat) (L : List Int) (x : Int) (add : Bool) (w : World) (h : Ints w B (.slice A L.length c) L) (hB : B ≤ w.heap.size) (hl : L.length ≤ 1000) :
    Calls Try.prog 11 #[.slice A L.length c, .int .i64 x, .bool add] w (Chg12 (change12 L x add) w) := by
  have m1 := rmay12_w A c B L w h hl
  cases hb : may12 L with
  | false =>
    rw [change12_no1 hb]
    rw [hb] at m1
    obtain ⟨n, hn⟩ : ∃ n, L.length = n := ⟨_, rfl⟩
    rw [hn] at m1 ⊢
    clear h hl hb hn hB
    go_enter Try.func11, Try.ntmps11
    go_wp2_with fail
    refine m1.mono ?_
    rintro e w1 ⟨rfl, h1⟩
    have H1 := Lib.hid h1
    clear h1
    go_wp2
    go_ret2
    exact Chg12.none12 H1.out
  | true =>
    rw [hb] at m1
    by_cases hx : 1 ≤ x ∧ x ≤ 7
    · by_cases hne : L.contains x = add
      · rw [change12_no3 hne]
        have HH := fun W hW => rhas12_w A c B L x W hW hl
        rw [hne] at HH
        obtain ⟨n, hn⟩ : ∃ n, L.length = n := ⟨_, rfl⟩
        rw [hn] at m1 HH h ⊢
        have hx1 : ¬ x < 1 := by omega
        have hx7 : ¬ 7 < x := by omega
        have HI := Lib.hid h
        have HHH := Lib.hid HH
        clear h hl hb hn hne HH hx
        go_enter Try.func11, Try.ntmps11
        go_wp2_with fail
        refine m1.mono ?_
        rintro e w1 ⟨rfl, hw1⟩
        have H1 := Lib.hid hw1
        have hh1 := HHH.out w1 (HI.out.keep hw1 hB)
        clear hw1 m1
        go_wp2_with fail
        refine hh1.mono ?_
        rintro e w2 ⟨rfl, rfl⟩
        have hna : (add == add) = true := by cases add <;> rfl
        clear hh1
        go_wp2
        go_ret2
        exact Chg12.none12 H1.out
      · rw [change12_yes hb hx.1 hx.2 hne]
        exact rchange12_yes A c B L x add w h hB hl hb hx.1 hx.2 hne
    · rw [change12_no2 hx]
      obtain ⟨n, hn⟩ : ∃ n, L.length = n := ⟨_, rfl⟩
      rw [hn] at m1 ⊢
      clear h hl hb hn hB
      by_cases hx1 : x < 1
      · clear hx
        go_enter Try.func11, Try.ntmps11
        go_wp2_with fail
        refine m1.mono ?_
        rintro e w1 ⟨rfl, h1⟩
        have H1 := Lib.hid h1
        clear h1
        go_wp2
        go_ret2
        exact Chg12.none12 H1.out
      · have hx7 : 7 < x := by omega
        clear hx
        go_enter Try.func11, Try.ntmps11
        go_wp2_with fail
        refine m1.mono ?_
        rintro e w1 ⟨rfl, h1⟩
        have H1 := Lib.hid h1
        clear h1
        go_wp2
        go_ret2
        exact Chg12.none12 H1.out
end Go.Proofs.Ytbiecoifeeikpaa
