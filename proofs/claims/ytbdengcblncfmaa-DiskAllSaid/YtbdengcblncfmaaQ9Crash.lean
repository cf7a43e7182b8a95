/-
  The reference's Crash: what lasts, and of the loose bytes so many.
  The disk has at most 1,000 files of at most 2^20 bytes each.
-/
import Derived.Test.YtbdengcblncfmaaQ9Swap
set_option linter.unusedSimpArgs false
set_option linter.unusedVariables false
namespace Go.Proofs.Ytbdengcblncfmaa
open Go.RowKit
set_option maxRecDepth 100000

theorem crash9_take (n : Int) (l : List Fil) (k : Nat) (hk : k < l.length) : crash9 n (l.take (k + 1)) = crash9 n (l.take k) ++ left9 n l[k] := by
  unfold crash9
  rw [List.take_succ_eq_append_getElem hk, List.flatMap_append]; simp
theorem byt_to9 {w : World} {B : Nat} {A : Option Addr} {c j : Nat} {l : List UInt8} (h : Byt w B (.slice A l.length c) l) (hj : j ≤ l.length) : Byt w B (.slice A j c) (l.take j) := by
  obtain ⟨A', c', hv, hc, hcell⟩ := h
  injection hv with e1 _ e3
  subst e1; subst e3
  refine ⟨A, c, by rw [List.length_take, Nat.min_eq_left hj], by rw [List.length_take]; omega, fun h0 => ?_⟩
  rw [List.length_take] at h0
  obtain ⟨g, o, hA, hg, hk⟩ := hcell (by omega)
  refine ⟨g, o, hA, hg, fun k h1 => ?_⟩
  rw [List.length_take] at h1
  rw [hk k (by omega), List.getElem_take]
theorem byt_capq9 {w : World} {B : Nat} {A : Option Addr} {m c : Nat} {l : List UInt8} (h : Byt w B (.slice A m c) l) : m ≤ c := by
  obtain ⟨A', c', hv, hc, _⟩ := h
  injection hv with _ e2 e3
  omega
theorem crash9_lenq (n : Int) (l : List Fil) : (crash9 n l).length ≤ l.length := by
  unfold crash9
  induction l with
  | nil => exact Nat.le_refl _
  | cons f t ih =>
    have h : (left9 n f).length ≤ 1 := by
      unfold left9
      split
      · exact Nat.le_refl _
      · exact Nat.zero_le _
    rw [List.flatMap_cons, List.length_append, List.length_cons]; omega
theorem rows_apart {w : World} {B C e f s t n m : Nat} {v u : Value} {xs ys : List Value} (h : w.ownsRow B e s v n xs) (h2 : w.ownsRow C f t u m ys) (hne : e ≠ f) : v.ownBlock = none ∨ v.ownBlock ≠ u.ownBlock := by
  rcases h.2 with ⟨rfl, _⟩ | ⟨g, c, cur, rfl, _, hg, _⟩
  · exact .inl rfl
  · refine .inr fun ee => ?_
    rcases h2.2 with ⟨rfl, _⟩ | ⟨g2, c2, cur2, rfl, _, hg2, _⟩
    · cases ee
    · have e3 : g = g2 := Option.some.inj (show some g = some g2 from ee)
      subst e3
      rw [hg] at hg2
      injection hg2 with hg2
      injection hg2 with _ h4 _
      exact hne h4
/-- a file is put behind a disk's row -/
theorem wp_append_fil {N : Nat → Prop} {w : World} {o : Oper} {a : Act} {K : Act → World → Prop} {Q : Exit → Act → World → Prop} (s x : Operand)
    (ho : o.op = .call { callee := .builtin .append, args := #[s, x], argTypes := #[27, 27] })
    (B g : Nat) (v u : Value) (l : List Fil) (c b1 : Nat) (f : Fil) (hd : Dsk N w B g v l c) (hf : OwnQ N u f.b w) (hs : a.eval s = v) (hx : a.eval x = .slice (some ⟨b1, 0, none⟩) 1 1) (hy : w.rangeAt b1 0 (flc (f, u))) (hl : l.length ≤ 1000) (hB : B ≤ w.heap.size) (hN : ∀ k, N k → k < w.heap.size)
    (h : ∀ v' w', OwnL N B v' (l ++ [f]) w' → Below B w w' → w'.heap[g]? = some (.cells #[v, .int .i64 ((c : Nat) : Int)] 29 (0, 0)) → K (a.put o.dst v') w') : o.wp Try.prog a w K Q := by
  obtain ⟨i, hi, hz0, hz1, hz2⟩ := info_parts Try.infoFile9
  obtain ⟨ps, hps, ⟨hown, hav⟩, hbs⟩ := hd.own
  obtain ⟨v', w', hr, h2, h3, _, h5⟩ := run_append_own_at (P := Try.prog) w B 27 o.type 64 i _ 4 56 Try.underlying27 hi hz0 hz1 hz2 rfl (by decide) v l.length _ hown ⟨b1, 0, none⟩ 1 1 (flc (f, u)) rfl
    (by
      intro j z hj
      rw [Addr.add_mid]; exact hy j z hj) (flc_one (own_slice hf.1)) (by unfold maxLen; omega) (by omega) hB
  unfold Oper.wp execOp
  simp only [ho, resolve, invoke, builtin, Sem.run_bind, Sem.run_pure, Result.andThen_ok, List.map_toArray, List.map_cons, List.map_nil, hs, hx, hr]
  refine h v' w' ⟨ps ++ [(f, u)], by rw [List.map_append, hps]; rfl, ⟨?_, ?_⟩, fun p hp => ?_⟩ ((Below.refl B w).grown h3 hB fun k hk => (World.ownsRow.lt hown k hk).1) ?_
  · rw [List.flatMap_append, List.length_append]
    simpa using h2
  · intro k hk hn
    rcases h5 with e | e
    · rw [e] at hk; exact hav k hk hn
    · rw [e] at hk
      have e2 : w.heap.size = k := Option.some.inj hk
      have := hN k hn
      omega
  · have keep : ∀ {q : Value} {b : List UInt8}, OwnQ N q b w → OwnQ N q b w' := fun h4 => ⟨World.ownsRow.kept h4.1 h3 (rows_apart h4.1 hown (Ne.symm file_ne_u8)), h4.2⟩
    rcases List.mem_append.1 hp with hp | hp
    · exact keep (hbs p hp)
    · rw [List.mem_singleton] at hp; subst hp; exact keep hf
  · rw [h3.block g hd.lt ?_]
    · exact hd.here
    · intro ee
      rcases hown.2 with ⟨rfl, _⟩ | ⟨g2, c2, cur2, rfl, _, hg2, _⟩
      · cases ee
      · have e3 : g = g2 := Option.some.inj (show some g = some g2 from ee)
        subst e3
        have h5 := hd.here
        rw [hg2] at h5
        injection h5 with h5
        injection h5 with _ h4 _
        exact disk_ne_file h4.symm
set_option maxHeartbeats 1000000 in
theorem rcrash_disk {M N : Nat → Prop} (B g : Nat) (v : Value) (l : List Fil) (c : Nat) (n : Int) (w : World) (h : Dsk M w B g v l c) (hN : ∀ k, N k → k < w.heap.size) (hl : l.length ≤ 1000) (hll : ∀ f ∈ l, f.b.length ≤ 1048576 ∧ f.fast ≤ f.b.length) (hn : -9223372036854775808 ≤ n ∧ n < 9223372036854775808) :
    Calls Try.prog 23 #[.pointer (some ⟨g, 0, none⟩), .int .i64 n] w fun e w' => ∃ g2 v2, e = .returned (.pointer (some ⟨g2, 0, none⟩)) ∧ Dsk N w' w.heap.size g2 v2 (crash9 n l) 0 ∧ Below w.heap.size w w' := by
  have H := Lib.hid h
  have HNN := Lib.hid hN
  clear hN
  have hc0 := h.cell0
  obtain ⟨A, ca, hv⟩ := h.own.slice
  obtain ⟨m, hm⟩ : ∃ m, l.length = m := ⟨_, rfl⟩
  rw [hm] at hv hl
  subst hv
  clear h
  have hD0 : Dsk N (w.alloc (Obj.cells #[.slice none 0 0, .int .i64 0] 29)) w.heap.size w.heap.size (.slice none 0 0) (crash9 n (l.take 0)) 0 :=
    ⟨Nat.le_refl _, (fun hn => by have := HNN.out _ hn; omega), heap_alloc_new _ _, OwnL.nil _ _ _⟩
  have hB0 := below_new w (Obj.cells #[.slice none 0 0, .int .i64 0] 29)
  have HD0 := Lib.hid hD0
  have HB0 := Lib.hid hB0
  obtain ⟨W0, hW0⟩ : ∃ W0, w.alloc (Obj.cells #[.slice none 0 0, .int .i64 0] 29) = W0 := ⟨_, rfl⟩
  rw [hW0] at HD0 HB0
  clear hD0 hB0
  go_enter Try.func23, Try.ntmps23
  go_wp2_with fail
  obtain ⟨g2, hg2⟩ : ∃ g2, w.heap.size = g2 := ⟨_, rfl⟩
  have HAV : Hid (¬ N g2) := Lib.hid (fun hn => by have := HNN.out g2 hn; omega)
  rw [hg2] at HD0
  try rw [hg2]
  go_loopw [6] (fun i wr => ∃ k : Nat, i = .int .i64 k ∧ k ≤ m ∧ (∃ v2, Dsk N wr g2 g2 v2 (crash9 n (l.take k)) 0) ∧ Below w.heap.size w wr) (fun i _ => m - (intOf i).toNat)
  case atStart => exact ⟨0, rfl, Nat.zero_le _, ⟨_, HD0.out⟩, HB0.out⟩
  case round =>
    obtain ⟨k, rfl, hk, ⟨v2, hd2⟩, hb⟩ := hrel
    have HD2 := Lib.hid hd2
    have HB := Lib.hid hb
    have hD := H.out.below hb
    have hc0 := hD.cell0
    have HD := Lib.hid hD
    clear hd2 hb hD
    by_cases hlt : k < m
    · have hkl : k < l.length := by omega
      obtain ⟨gr, u, hA, hB, hgr, hrg, hu, hfr⟩ := HD.out.own.at_ k hkl
      subst hA
      have hki : (k : Int) < m := by omega
      obtain ⟨hq1, hq2⟩ := hll l[k] (List.getElem_mem hkl)
      have HTAKE := Lib.hid (crash9_take n l k hkl)
      obtain ⟨q, hq⟩ : ∃ q, l[k].b.length = q := ⟨_, rfl⟩
      obtain ⟨fa, hfa⟩ : ∃ fa, l[k].fast = fa := ⟨_, rfl⟩
      obtain ⟨th, hth⟩ : ∃ th, l[k].there = th := ⟨_, rfl⟩
      obtain ⟨nm, hnm⟩ : ∃ nm, l[k].name = nm := ⟨_, rfl⟩
      obtain ⟨Ab, cb, hub⟩ := own_slice hu
      rw [hq] at hub hq1 hq2
      rw [hfa] at hq2
      subst hub
      have e0 : wr.cell? ⟨gr, k * 4, none⟩ = some (.string nm) := by rw [← hnm]; exact hrg 0 _ rfl
      have e1 : wr.cell? ⟨gr, k * 4 + 1, none⟩ = some (.slice Ab q cb) := hrg 1 _ rfl
      have e2 : wr.cell? ⟨gr, k * 4 + 2, none⟩ = some (.int .i64 (fa : Nat)) := by rw [← hfa]; exact hrg 2 _ rfl
      have e3 : wr.cell? ⟨gr, k * 4 + 3, none⟩ = some (.bool th) := by rw [← hth]; exact hrg 3 _ rfl
      clear hrg hfr
      obtain ⟨kk, hkk⟩ : ∃ kk, kOf9 n l[k] = kk := ⟨_, rfl⟩
      have hk1 : fa + kk ≤ q := by rw [← hkk, ← hfa, ← hq]; exact kOf9_le (by omega)
      have hb5 := below_new wr (Obj.cells #[.string nm, .slice Ab q cb, .int .i64 (fa : Nat), .bool th] 64)
      have hr5 := cells_new9 wr 64 [.string nm, .slice Ab q cb, .int .i64 (fa : Nat), .bool th]
      have hg5 : wr.heap.size < (wr.alloc (Obj.cells #[.string nm, .slice Ab q cb, .int .i64 (fa : Nat), .bool th] 64)).heap.size := by simp
      obtain ⟨W5, hW5⟩ : ∃ W5, wr.alloc (Obj.cells #[.string nm, .slice Ab q cb, .int .i64 (fa : Nat), .bool th] 64) = W5 := ⟨_, rfl⟩
      rw [hW5] at hb5 hg5
      replace hr5 : W5.rangeAt wr.heap.size 0 [.string nm, .slice Ab q cb, .int .i64 (fa : Nat), .bool th] := hW5 ▸ hr5
      obtain ⟨gb, hgb⟩ : ∃ gb, wr.heap.size = gb := ⟨_, rfl⟩
      have HD5 := Lib.hid (HD2.out.below hb5)
      have HBY5 := Lib.hid ((Byt.of_own hu).below hb5 (Nat.le_refl _))
      have hgg : g2 < gb := by rw [← hgb]; exact HD2.out.lt
      have hwz := HB.out.size
      have HB5 := Lib.hid (HB.out.trans (hb5.mono hwz))
      clear hb5 HD HD2 HB hu
      go_upto_region 7 with fail
      rw [hgb] at hr5 hg5 HBY5
      try rw [hgb]
      have b1 : W5.cell? ⟨gb, 1, none⟩ = some (.slice Ab q cb) := hr5 1 _ rfl
      have b2 : W5.cell? ⟨gb, 2, none⟩ = some (.int .i64 (fa : Nat)) := hr5 2 _ rfl
      have b3 : W5.cell? ⟨gb, 3, none⟩ = some (.bool th) := hr5 3 _ rfl
      have HR5 := Lib.hid hr5
      clear hr5 e0 e1 e2 e3
      by_cases hn0 : 0 < n
      · have hmod : n.tmod ((q : Int) - fa + 1) = (kk : Nat) := by rw [← hkk, ← hq, ← hfa]; exact kOf9_pos hn0 (by omega)
        have hne : ¬ (q : Int) - fa + 1 = 0 := by omega
        by_cases hk0 : 0 < kk
        · have hk0i : (0 : Int) < kk := by omega
          rcases th with _ | _
          · skip
            obtain ⟨jj, hjj⟩ : ∃ jj, fa + kk = jj := ⟨_, rfl⟩
            have hji : (fa : Int) + (kk : Nat) = (jj : Nat) := by omega
            have hjq : jj ≤ q := by omega
            have hby : Byt W5 gb (.slice Ab jj cb) (l[k].b.take jj) := byt_to9 (c := cb) (by rw [hq]; exact HBY5.out) (by rw [hq]; omega)
            have htl : (l[k].b.take jj).length = jj := by rw [List.length_take, hq]; omega
            have HBY := Lib.hid hby
            clear hby
            have hjc : ((jj : Nat) : Int) ≤ (cb : Nat) := by have := byt_capq9 HBY5.out; omega
            go_wp2_with (at_builtin; refine wpList_append_byt rfl _ _ rfl W5.heap.size _ _ _ _ _ rfl (ownB_nil W5.heap.size _) rfl HBY.out ?x1 (Nat.le_refl _) ?_)
            case x1 => first | omega | (rw [htl]; simp; omega)
            intro v6 W6 ho6 hb6
            obtain ⟨A6, c6, hv6⟩ := own_slice ho6
            rw [htl] at hv6
            subst hv6
            have HO6 := Lib.hid (ownN_of ho6 (fun k hk => Nat.lt_of_lt_of_le (HNN.out k hk) HB5.out.size))
            have hg6 : gb < W6.heap.size := Nat.lt_of_lt_of_le hg5 hb6.size
            have HR6 := Lib.hid (rng_below9 HR5.out hb6 hg5)
            have HD6 := Lib.hid (HD5.out.below hb6)
            have HB6 := Lib.hid (HB5.out.trans (hb6.mono (by omega)))
            obtain ⟨A2, c2, hv2⟩ := HD6.out.own.slice
            obtain ⟨m2, hm2⟩ : ∃ m2, (crash9 n (l.take k)).length = m2 := ⟨_, rfl⟩
            have hm2l : (crash9 n (l.take k)).length ≤ 1000 := by have := crash9_lenq n (l.take k); rw [List.length_take] at this; omega
            rw [hm2] at hv2
            subst hv2
            have hc0 := HD6.out.cell0
            have hnb : W6.cell? ⟨gb, 0, none⟩ = some (.string nm) := HR6.out 0 _ rfl
            have hb := HB6.out
            have hlt2 : g2 < W6.heap.size := HD6.out.lt
            have hleft : left9 n l[k] = [⟨nm, l[k].b.take jj, jj, true⟩] := by
              unfold left9
              rw [hkk, hfa, hnm, if_pos (by first | exact .inl hth | exact .inr hk0), hjj]
              try rfl
            have HLEFT := Lib.hid hleft
            clear ho6 hb6 HBY HR5 HD5 HB5 HB6 HR6 b1 b2 b3 hleft
            go_upto_region 11 with fail
            replace hc0 : W6.drew.cell? ⟨g2, 0, none⟩ = some (.slice A2 m2 c2) := hc0
            replace hnb : W6.drew.cell? ⟨gb, 0, none⟩ = some (.string nm) := hnb
            replace HD6 := Lib.hid ((HD6.out).below ((Below.refl W6.heap.size W6).drew))
            replace HO6 := Lib.hid ((HO6.out).below ((Below.refl W6.heap.size W6).drew))
            refine wp_region_noPanic ?_
            refine wp_region_held_drew (S := fun W => True) (by kernel_rfl) ?_ (fun hHeld => ?_)
            · trivial
            replace hb : Below w.heap.size w W6.drew := hb.drew
            replace hlt2 : g2 < W6.drew.heap.size := hlt2
            replace hg6 : gb < W6.drew.heap.size := hg6
            have hzd : W6.heap.size ≤ W6.drew.heap.size := Nat.le_refl _
            generalize W6.drew = k101 at *
            refine wpAnyH_take (i := 0) (oi := { dst := some 53, op := Op.move (Operand.tmp 5), type := 26, pos := "ref.go:113", after := #[], guard := none }) (v := .pointer (some ⟨g2, 0, none⟩)) rfl (by kernel_rfl) (by kernel_rfl) (by kernel_rfl) (fun _ _ _ h => h) (Or.inl ⟨by rfl, fun w hSw => ?_⟩) (by assumption) ?_
            · (try dsimp only at hSw)
              go_simp
            try simp only [Act.put, List.setIfInBounds_toArray, List.set_cons_zero, List.set_cons_succ]
            refine wpAnyH_take (i := 1) (oi := { dst := some 54, op := Op.move (Operand.tmp 5), type := 26, pos := "ref.go:113", after := #[], guard := none }) (v := .pointer (some ⟨g2, 0, none⟩)) rfl (by kernel_rfl) (by kernel_rfl) (by kernel_rfl) (fun _ _ _ h => h) (Or.inl ⟨by rfl, fun w hSw => ?_⟩) (by assumption) ?_
            · (try dsimp only at hSw)
              go_simp
            try simp only [Act.put, List.setIfInBounds_toArray, List.set_cons_zero, List.set_cons_succ]
            refine wpAnyH_take (i := 2) (oi := { dst := some 55, op := Op.nilCheck (Operand.tmp 54), type := 0, pos := "ref.go:113", after := #[{ on := 1, ground := Ground.data }], guard := none }) (v := .pointer (some ⟨g2, 0, none⟩)) rfl (by kernel_rfl) (by kernel_rfl) (by kernel_rfl) (fun _ _ _ h => h) (Or.inl ⟨by rfl, fun w hSw => ?_⟩) (by assumption) ?_
            · (try dsimp only at hSw)
              go_simp
            try simp only [Act.put, List.setIfInBounds_toArray, List.set_cons_zero, List.set_cons_succ]
            refine wpAnyH_take (i := 3) (oi := { dst := some 56, op := Op.fieldAddr 29 (Operand.tmp 55) 0, type := 0, pos := "ref.go:113", after := #[{ on := 2, ground := Ground.data }], guard := none }) (v := .pointer (some ⟨g2, 0, none⟩)) rfl (by kernel_rfl) (by kernel_rfl) (by kernel_rfl) (fun _ _ _ h => h) (Or.inl ⟨by rfl, fun w hSw => ?_⟩) (by assumption) ?_
            · (try dsimp only at hSw)
              go_simp
            try simp only [Act.put, List.setIfInBounds_toArray, List.set_cons_zero, List.set_cons_succ]
            refine wpAnyH_take (i := 5) (oi := { dst := some 58, op := Op.fieldAddr 64 (Operand.tmp 7) 0, type := 0, pos := "ref.go:113", after := #[], guard := none }) (v := .pointer (some ⟨gb, 0, none⟩)) rfl (by kernel_rfl) (by kernel_rfl) (by kernel_rfl) (fun _ _ _ h => h) (Or.inl ⟨by rfl, fun w hSw => ?_⟩) (by assumption) ?_
            · (try dsimp only at hSw)
              go_simp
            try simp only [Act.put, List.setIfInBounds_toArray, List.set_cons_zero, List.set_cons_succ]
            refine wpAnyH_take (i := 7) (oi := { dst := some 60, op := Op.move (Operand.tmp 9), type := 30, pos := "ref.go:113", after := #[], guard := none }) (v := .slice A6 jj c6) rfl (by kernel_rfl) (by kernel_rfl) (by kernel_rfl) (fun _ _ _ h => h) (Or.inl ⟨by rfl, fun w hSw => ?_⟩) (by assumption) ?_
            · (try dsimp only at hSw)
              go_simp
            try simp only [Act.put, List.setIfInBounds_toArray, List.set_cons_zero, List.set_cons_succ]
            refine wpAnyH_take (i := 8) (oi := { dst := some 61, op := Op.move (Operand.tmp 9), type := 30, pos := "ref.go:113", after := #[], guard := none }) (v := .slice A6 jj c6) rfl (by kernel_rfl) (by kernel_rfl) (by kernel_rfl) (fun _ _ _ h => h) (Or.inl ⟨by rfl, fun w hSw => ?_⟩) (by assumption) ?_
            · (try dsimp only at hSw)
              go_simp
            try simp only [Act.put, List.setIfInBounds_toArray, List.set_cons_zero, List.set_cons_succ]
            refine wpAnyH_take (i := 9) (oi := { dst := some 62, op := Op.call { callee := Callee.builtin Builtin.len, args := #[Operand.tmp 61], argTypes := #[30] }, type := 3, pos := "ref.go:113", after := #[{ on := 8, ground := Ground.data }], guard := none }) (v := .int .i64 ((jj : Nat) : Int)) rfl (by kernel_rfl) (by kernel_rfl) (by kernel_rfl) (fun _ _ _ h => h) (Or.inl ⟨by rfl, fun w hSw => ?_⟩) (by assumption) ?_
            · (try dsimp only at hSw)
              go_simp
            try simp only [Act.put, List.setIfInBounds_toArray, List.set_cons_zero, List.set_cons_succ]
            refine wpAnyH_ready (rs := [4, 6]) (by kernel_rfl) (by simp) ?_
            refine AllReadyH.cons (o := { dst := some 57, op := Op.load 27 (Operand.tmp 56), type := 27, pos := "ref.go:113", after := #[{ on := 3, ground := Ground.data }], guard := none }) rfl (fun K hK => ?_) (AllReadyH.cons (o := { dst := some 59, op := Op.load 9 (Operand.tmp 58), type := 9, pos := "ref.go:113", after := #[{ on := 5, ground := Ground.data }], guard := none }) rfl (fun K hK => ?_) (AllReadyH.nil))
            · go_simp
              refine hK.out _ _ ?_ (fun hHeld => ?_)
              · trivial
              clear hK K
              try simp only [Act.put, List.setIfInBounds_toArray, List.set_cons_zero, List.set_cons_succ]
              refine wpAnyH_ready (rs := [6]) (by kernel_rfl) (by simp) ?_
              refine AllReadyH.cons (o := { dst := some 59, op := Op.load 9 (Operand.tmp 58), type := 9, pos := "ref.go:113", after := #[{ on := 5, ground := Ground.data }], guard := none }) rfl (fun K hK => ?_) (AllReadyH.nil)
              go_simp
              refine hK.out _ _ ?_ (fun hHeld => ?_)
              · trivial
              clear hK K
              try simp only [Act.put, List.setIfInBounds_toArray, List.set_cons_zero, List.set_cons_succ]
              refine wpAnyH_take (i := 10) (oi := { dst := some 63, op := Op.build 64 #[(0, Operand.tmp 59), (1, Operand.tmp 60), (2, Operand.tmp 62), (3, Operand.const (Value.bool true))], type := 64, pos := "ref.go:113", after := #[{ on := 6, ground := Ground.data }, { on := 7, ground := Ground.data }, { on := 9, ground := Ground.data }], guard := none }) (v := .agg #[.string nm, .slice A6 jj c6, .int .i64 ((jj : Nat) : Int), .bool true]) rfl (by kernel_rfl) (by kernel_rfl) (by kernel_rfl) (fun _ _ _ h => h) (Or.inl ⟨by rfl, fun w hSw => ?_⟩) (by assumption) ?_
              · (try dsimp only at hSw)
                go_simp
              try simp only [Act.put, List.setIfInBounds_toArray, List.set_cons_zero, List.set_cons_succ]
              refine wpAnyH_ready (rs := [11]) (by kernel_rfl) (by simp) ?_
              refine AllReadyH.cons (o := { dst := some 64, op := Op.buildSlice 27 1 #[(0, Operand.tmp 63)], type := 27, pos := "ref.go:113", after := #[{ on := 10, ground := Ground.data }], guard := none }) rfl (fun K hK => ?_) (AllReadyH.nil)
              go_simp
              have hk : Below k101.heap.size k101 (k101.alloc (Obj.cells #[.string nm, .slice A6 jj c6, .int .i64 ((jj : Nat) : Int), .bool true] 64)) := below_new k101 _
              have hnw : (k101.alloc (Obj.cells #[.string nm, .slice A6 jj c6, .int .i64 ((jj : Nat) : Int), .bool true] 64)).rangeAt k101.heap.size 0 [.string nm, .slice A6 jj c6, .int .i64 ((jj : Nat) : Int), .bool true] := cells_new9 _ _ _
              obtain ⟨b1, hb1⟩ : ∃ b1, k101.heap.size = b1 := ⟨_, rfl⟩
              have hb1z : b1 < (k101.alloc (Obj.cells #[.string nm, .slice A6 jj c6, .int .i64 ((jj : Nat) : Int), .bool true] 64)).heap.size := by rw [← hb1]; simp
              generalize k101.alloc (Obj.cells #[.string nm, .slice A6 jj c6, .int .i64 ((jj : Nat) : Int), .bool true] 64) = k102 at *
              have HNW := Lib.hid hnw; clear hnw
              replace hc0 : k102.cell? ⟨g2, 0, none⟩ = some (.slice A2 m2 c2) := (hk.cell (p := ⟨g2, 0, none⟩) (by first | (simp; done) | (simp; omega) | omega)).trans hc0
              replace hnb : k102.cell? ⟨gb, 0, none⟩ = some (.string nm) := (hk.cell (p := ⟨gb, 0, none⟩) (by first | (simp; done) | (simp; omega) | omega)).trans hnb
              replace HD6 := Lib.hid ((HD6.out).below hk)
              replace HO6 := Lib.hid ((HO6.out).below hk)
              replace hb : Below w.heap.size w k102 := hb.trans (hk.mono hb.size)
              have hkz := hk.size
              have hlt2 : g2 < k102.heap.size := (by first | (simp; done) | (simp; omega) | omega)
              have hg6 : gb < k102.heap.size := (by first | (simp; done) | (simp; omega) | omega)
              rw [hb1] at HNW
              try rw [hb1]
              clear hk
              refine hK.out _ _ ?_ (fun hHeld => ?_)
              · trivial
              clear hK K
              try simp only [Act.put, List.setIfInBounds_toArray, List.set_cons_zero, List.set_cons_succ]
              refine wpAnyH_ready (rs := [12]) (by kernel_rfl) (by simp) ?_
              refine AllReadyH.cons (o := { dst := some 65, op := Op.call { callee := Callee.builtin Builtin.append, args := #[Operand.tmp 57, Operand.tmp 64], argTypes := #[27, 27] }, type := 27, pos := "ref.go:113", after := #[{ on := 4, ground := Ground.data }, { on := 11, ground := Ground.data }], guard := none }) rfl (fun K hK => ?_) (AllReadyH.nil)
              rw [if_pos (by rfl)]
              refine wp_append_fil _ _ rfl g2 g2 _ (.slice A6 jj c6) (crash9 n (l.take k)) 0 b1 (⟨nm, l[k].b.take jj, jj, true⟩ : Fil) HD6.out HO6.out rfl rfl HNW.out hm2l (by omega) (fun k hk => Nat.lt_of_lt_of_le (HNN.out k hk) hb.size) ?_
              intro v12 k103 ho12 hk hbox
              obtain ⟨A12, c12, hv12⟩ := ho12.slice
              obtain ⟨m12, hm12⟩ : ∃ m12, (crash9 n (l.take k) ++ [(⟨nm, l[k].b.take jj, jj, true⟩ : Fil)]).length = m12 := ⟨_, rfl⟩
              rw [hm12] at hv12
              subst hv12
              replace hc0 : k103.cell? ⟨g2, 0, none⟩ = some (.slice A2 m2 c2) := by rw [cell_of_row k103 g2 0 _ _ _ hbox]; rfl
              have hfz : k103.frozen? ⟨g2, 0, none⟩ = false := frozen_of_row k103 g2 0 _ _ hbox
              replace hb : Below w.heap.size w k103 := hb.trans (hk.mono (Nat.le_of_eq hg2))
              have HO12 := Lib.hid ho12
              have HBX12 := Lib.hid hbox
              clear HNW HO6 HD6 hnb ho12 hbox hk
              refine hK.out _ _ ?_ (fun hHeld => ?_)
              · trivial
              clear hK K
              try simp only [Act.put, List.setIfInBounds_toArray, List.set_cons_zero, List.set_cons_succ]
              refine wpAnyH_take (i := 13) (oi := { dst := some 66, op := Op.nilCheck (Operand.tmp 53), type := 0, pos := "ref.go:113", after := #[{ on := 0, ground := Ground.data }, { on := 0, ground := Ground.phase }, { on := 1, ground := Ground.phase }, { on := 2, ground := Ground.phase }, { on := 3, ground := Ground.phase }, { on := 4, ground := Ground.phase }, { on := 5, ground := Ground.phase }, { on := 6, ground := Ground.phase }, { on := 7, ground := Ground.phase }, { on := 8, ground := Ground.phase }, { on := 9, ground := Ground.phase }, { on := 10, ground := Ground.phase }, { on := 11, ground := Ground.phase }, { on := 12, ground := Ground.phase }], guard := none }) (v := .pointer (some ⟨g2, 0, none⟩)) rfl (by kernel_rfl) (by kernel_rfl) (by kernel_rfl) (fun _ _ _ h => h) (Or.inl ⟨by rfl, fun w hSw => ?_⟩) (by assumption) ?_
              · (try dsimp only at hSw)
                go_simp
              try simp only [Act.put, List.setIfInBounds_toArray, List.set_cons_zero, List.set_cons_succ]
              refine wpAnyH_take (i := 14) (oi := { dst := some 67, op := Op.fieldAddr 29 (Operand.tmp 66) 0, type := 0, pos := "ref.go:113", after := #[{ on := 13, ground := Ground.data }, { on := 0, ground := Ground.phase }, { on := 1, ground := Ground.phase }, { on := 2, ground := Ground.phase }, { on := 3, ground := Ground.phase }, { on := 4, ground := Ground.phase }, { on := 5, ground := Ground.phase }, { on := 6, ground := Ground.phase }, { on := 7, ground := Ground.phase }, { on := 8, ground := Ground.phase }, { on := 9, ground := Ground.phase }, { on := 10, ground := Ground.phase }, { on := 11, ground := Ground.phase }, { on := 12, ground := Ground.phase }], guard := none }) (v := .pointer (some ⟨g2, 0, none⟩)) rfl (by kernel_rfl) (by kernel_rfl) (by kernel_rfl) (fun _ _ _ h => h) (Or.inl ⟨by rfl, fun w hSw => ?_⟩) (by assumption) ?_
              · (try dsimp only at hSw)
                go_simp
              try simp only [Act.put, List.setIfInBounds_toArray, List.set_cons_zero, List.set_cons_succ]
              refine wpAnyH_ready (rs := [15]) (by kernel_rfl) (by simp) ?_
              refine AllReadyH.cons (o := { dst := none, op := Op.store 27 (Operand.tmp 67) (Operand.tmp 65), type := 0, pos := "ref.go:113", after := #[{ on := 14, ground := Ground.data }, { on := 12, ground := Ground.data }, { on := 12, ground := Ground.chain }, { on := 0, ground := Ground.phase }, { on := 1, ground := Ground.phase }, { on := 2, ground := Ground.phase }, { on := 3, ground := Ground.phase }, { on := 4, ground := Ground.phase }, { on := 5, ground := Ground.phase }, { on := 6, ground := Ground.phase }, { on := 7, ground := Ground.phase }, { on := 8, ground := Ground.phase }, { on := 9, ground := Ground.phase }, { on := 10, ground := Ground.phase }, { on := 11, ground := Ground.phase }, { on := 12, ground := Ground.phase }], guard := none }) rfl (fun K hK => ?_) (AllReadyH.nil)
              go_simp
              refine hK.out _ _ ?_ (fun hHeld => ?_)
              · trivial
              clear hK K
              try simp only [Act.put, List.setIfInBounds_toArray, List.set_cons_zero, List.set_cons_succ]
              refine wpAnyH_done (by kernel_rfl) ?_ _
              refine NoPanic.normal ?_
              have hfin : Dsk N (k103.setCell ⟨g2, 0, none⟩ (.slice A12 m12 c12)) g2 g2 (.slice A12 m12 c12) (crash9 n (l.take (k + 1))) 0 := by
                rw [HTAKE.out, HLEFT.out]
                exact ⟨Nat.le_refl _, HAV.out, by rw [heap_setCell_same _ g2 0 _ _ _ HBX12.out]; rfl, HO12.out.far HBX12.out disk_ne_file disk_ne_u8⟩
              have HFIN := Lib.hid hfin
              have HBF := Lib.hid (hb.setCell (p := ⟨g2, 0, none⟩) (Nat.le_of_eq hg2) (.slice A12 m12 c12))
              clear hfin hb
              go_wp2
              refine ⟨⟨k + 1, by go_num, by omega, ⟨_, HFIN.out⟩, HBF.out⟩, by simp [intOf]; omega⟩
            · go_simp
              refine hK.out _ _ ?_ (fun hHeld => ?_)
              · trivial
              clear hK K
              try simp only [Act.put, List.setIfInBounds_toArray, List.set_cons_zero, List.set_cons_succ]
              refine wpAnyH_take (i := 10) (oi := { dst := some 63, op := Op.build 64 #[(0, Operand.tmp 59), (1, Operand.tmp 60), (2, Operand.tmp 62), (3, Operand.const (Value.bool true))], type := 64, pos := "ref.go:113", after := #[{ on := 6, ground := Ground.data }, { on := 7, ground := Ground.data }, { on := 9, ground := Ground.data }], guard := none }) (v := .agg #[.string nm, .slice A6 jj c6, .int .i64 ((jj : Nat) : Int), .bool true]) rfl (by kernel_rfl) (by kernel_rfl) (by kernel_rfl) (fun _ _ _ h => h) (Or.inl ⟨by rfl, fun w hSw => ?_⟩) (by assumption) ?_
              · (try dsimp only at hSw)
                go_simp
              try simp only [Act.put, List.setIfInBounds_toArray, List.set_cons_zero, List.set_cons_succ]
              refine wpAnyH_ready (rs := [4, 11]) (by kernel_rfl) (by simp) ?_
              refine AllReadyH.cons (o := { dst := some 57, op := Op.load 27 (Operand.tmp 56), type := 27, pos := "ref.go:113", after := #[{ on := 3, ground := Ground.data }], guard := none }) rfl (fun K hK => ?_) (AllReadyH.cons (o := { dst := some 64, op := Op.buildSlice 27 1 #[(0, Operand.tmp 63)], type := 27, pos := "ref.go:113", after := #[{ on := 10, ground := Ground.data }], guard := none }) rfl (fun K hK => ?_) (AllReadyH.nil))
              · go_simp
                refine hK.out _ _ ?_ (fun hHeld => ?_)
                · trivial
                clear hK K
                try simp only [Act.put, List.setIfInBounds_toArray, List.set_cons_zero, List.set_cons_succ]
                refine wpAnyH_ready (rs := [11]) (by kernel_rfl) (by simp) ?_
                refine AllReadyH.cons (o := { dst := some 64, op := Op.buildSlice 27 1 #[(0, Operand.tmp 63)], type := 27, pos := "ref.go:113", after := #[{ on := 10, ground := Ground.data }], guard := none }) rfl (fun K hK => ?_) (AllReadyH.nil)
                go_simp
                have hk : Below k101.heap.size k101 (k101.alloc (Obj.cells #[.string nm, .slice A6 jj c6, .int .i64 ((jj : Nat) : Int), .bool true] 64)) := below_new k101 _
                have hnw : (k101.alloc (Obj.cells #[.string nm, .slice A6 jj c6, .int .i64 ((jj : Nat) : Int), .bool true] 64)).rangeAt k101.heap.size 0 [.string nm, .slice A6 jj c6, .int .i64 ((jj : Nat) : Int), .bool true] := cells_new9 _ _ _
                obtain ⟨b1, hb1⟩ : ∃ b1, k101.heap.size = b1 := ⟨_, rfl⟩
                have hb1z : b1 < (k101.alloc (Obj.cells #[.string nm, .slice A6 jj c6, .int .i64 ((jj : Nat) : Int), .bool true] 64)).heap.size := by rw [← hb1]; simp
                generalize k101.alloc (Obj.cells #[.string nm, .slice A6 jj c6, .int .i64 ((jj : Nat) : Int), .bool true] 64) = k102 at *
                have HNW := Lib.hid hnw; clear hnw
                replace hc0 : k102.cell? ⟨g2, 0, none⟩ = some (.slice A2 m2 c2) := (hk.cell (p := ⟨g2, 0, none⟩) (by first | (simp; done) | (simp; omega) | omega)).trans hc0
                replace hnb : k102.cell? ⟨gb, 0, none⟩ = some (.string nm) := (hk.cell (p := ⟨gb, 0, none⟩) (by first | (simp; done) | (simp; omega) | omega)).trans hnb
                replace HD6 := Lib.hid ((HD6.out).below hk)
                replace HO6 := Lib.hid ((HO6.out).below hk)
                replace hb : Below w.heap.size w k102 := hb.trans (hk.mono hb.size)
                have hkz := hk.size
                have hlt2 : g2 < k102.heap.size := (by first | (simp; done) | (simp; omega) | omega)
                have hg6 : gb < k102.heap.size := (by first | (simp; done) | (simp; omega) | omega)
                rw [hb1] at HNW
                try rw [hb1]
                clear hk
                refine hK.out _ _ ?_ (fun hHeld => ?_)
                · trivial
                clear hK K
                try simp only [Act.put, List.setIfInBounds_toArray, List.set_cons_zero, List.set_cons_succ]
                refine wpAnyH_ready (rs := [12]) (by kernel_rfl) (by simp) ?_
                refine AllReadyH.cons (o := { dst := some 65, op := Op.call { callee := Callee.builtin Builtin.append, args := #[Operand.tmp 57, Operand.tmp 64], argTypes := #[27, 27] }, type := 27, pos := "ref.go:113", after := #[{ on := 4, ground := Ground.data }, { on := 11, ground := Ground.data }], guard := none }) rfl (fun K hK => ?_) (AllReadyH.nil)
                rw [if_pos (by rfl)]
                refine wp_append_fil _ _ rfl g2 g2 _ (.slice A6 jj c6) (crash9 n (l.take k)) 0 b1 (⟨nm, l[k].b.take jj, jj, true⟩ : Fil) HD6.out HO6.out rfl rfl HNW.out hm2l (by omega) (fun k hk => Nat.lt_of_lt_of_le (HNN.out k hk) hb.size) ?_
                intro v12 k103 ho12 hk hbox
                obtain ⟨A12, c12, hv12⟩ := ho12.slice
                obtain ⟨m12, hm12⟩ : ∃ m12, (crash9 n (l.take k) ++ [(⟨nm, l[k].b.take jj, jj, true⟩ : Fil)]).length = m12 := ⟨_, rfl⟩
                rw [hm12] at hv12
                subst hv12
                replace hc0 : k103.cell? ⟨g2, 0, none⟩ = some (.slice A2 m2 c2) := by rw [cell_of_row k103 g2 0 _ _ _ hbox]; rfl
                have hfz : k103.frozen? ⟨g2, 0, none⟩ = false := frozen_of_row k103 g2 0 _ _ hbox
                replace hb : Below w.heap.size w k103 := hb.trans (hk.mono (Nat.le_of_eq hg2))
                have HO12 := Lib.hid ho12
                have HBX12 := Lib.hid hbox
                clear HNW HO6 HD6 hnb ho12 hbox hk
                refine hK.out _ _ ?_ (fun hHeld => ?_)
                · trivial
                clear hK K
                try simp only [Act.put, List.setIfInBounds_toArray, List.set_cons_zero, List.set_cons_succ]
                refine wpAnyH_take (i := 13) (oi := { dst := some 66, op := Op.nilCheck (Operand.tmp 53), type := 0, pos := "ref.go:113", after := #[{ on := 0, ground := Ground.data }, { on := 0, ground := Ground.phase }, { on := 1, ground := Ground.phase }, { on := 2, ground := Ground.phase }, { on := 3, ground := Ground.phase }, { on := 4, ground := Ground.phase }, { on := 5, ground := Ground.phase }, { on := 6, ground := Ground.phase }, { on := 7, ground := Ground.phase }, { on := 8, ground := Ground.phase }, { on := 9, ground := Ground.phase }, { on := 10, ground := Ground.phase }, { on := 11, ground := Ground.phase }, { on := 12, ground := Ground.phase }], guard := none }) (v := .pointer (some ⟨g2, 0, none⟩)) rfl (by kernel_rfl) (by kernel_rfl) (by kernel_rfl) (fun _ _ _ h => h) (Or.inl ⟨by rfl, fun w hSw => ?_⟩) (by assumption) ?_
                · (try dsimp only at hSw)
                  go_simp
                try simp only [Act.put, List.setIfInBounds_toArray, List.set_cons_zero, List.set_cons_succ]
                refine wpAnyH_take (i := 14) (oi := { dst := some 67, op := Op.fieldAddr 29 (Operand.tmp 66) 0, type := 0, pos := "ref.go:113", after := #[{ on := 13, ground := Ground.data }, { on := 0, ground := Ground.phase }, { on := 1, ground := Ground.phase }, { on := 2, ground := Ground.phase }, { on := 3, ground := Ground.phase }, { on := 4, ground := Ground.phase }, { on := 5, ground := Ground.phase }, { on := 6, ground := Ground.phase }, { on := 7, ground := Ground.phase }, { on := 8, ground := Ground.phase }, { on := 9, ground := Ground.phase }, { on := 10, ground := Ground.phase }, { on := 11, ground := Ground.phase }, { on := 12, ground := Ground.phase }], guard := none }) (v := .pointer (some ⟨g2, 0, none⟩)) rfl (by kernel_rfl) (by kernel_rfl) (by kernel_rfl) (fun _ _ _ h => h) (Or.inl ⟨by rfl, fun w hSw => ?_⟩) (by assumption) ?_
                · (try dsimp only at hSw)
                  go_simp
                try simp only [Act.put, List.setIfInBounds_toArray, List.set_cons_zero, List.set_cons_succ]
                refine wpAnyH_ready (rs := [15]) (by kernel_rfl) (by simp) ?_
                refine AllReadyH.cons (o := { dst := none, op := Op.store 27 (Operand.tmp 67) (Operand.tmp 65), type := 0, pos := "ref.go:113", after := #[{ on := 14, ground := Ground.data }, { on := 12, ground := Ground.data }, { on := 12, ground := Ground.chain }, { on := 0, ground := Ground.phase }, { on := 1, ground := Ground.phase }, { on := 2, ground := Ground.phase }, { on := 3, ground := Ground.phase }, { on := 4, ground := Ground.phase }, { on := 5, ground := Ground.phase }, { on := 6, ground := Ground.phase }, { on := 7, ground := Ground.phase }, { on := 8, ground := Ground.phase }, { on := 9, ground := Ground.phase }, { on := 10, ground := Ground.phase }, { on := 11, ground := Ground.phase }, { on := 12, ground := Ground.phase }], guard := none }) rfl (fun K hK => ?_) (AllReadyH.nil)
                go_simp
                refine hK.out _ _ ?_ (fun hHeld => ?_)
                · trivial
                clear hK K
                try simp only [Act.put, List.setIfInBounds_toArray, List.set_cons_zero, List.set_cons_succ]
                refine wpAnyH_done (by kernel_rfl) ?_ _
                refine NoPanic.normal ?_
                have hfin : Dsk N (k103.setCell ⟨g2, 0, none⟩ (.slice A12 m12 c12)) g2 g2 (.slice A12 m12 c12) (crash9 n (l.take (k + 1))) 0 := by
                  rw [HTAKE.out, HLEFT.out]
                  exact ⟨Nat.le_refl _, HAV.out, by rw [heap_setCell_same _ g2 0 _ _ _ HBX12.out]; rfl, HO12.out.far HBX12.out disk_ne_file disk_ne_u8⟩
                have HFIN := Lib.hid hfin
                have HBF := Lib.hid (hb.setCell (p := ⟨g2, 0, none⟩) (Nat.le_of_eq hg2) (.slice A12 m12 c12))
                clear hfin hb
                go_wp2
                refine ⟨⟨k + 1, by go_num, by omega, ⟨_, HFIN.out⟩, HBF.out⟩, by simp [intOf]; omega⟩
              · go_simp
                have hk : Below k101.heap.size k101 (k101.alloc (Obj.cells #[.string nm, .slice A6 jj c6, .int .i64 ((jj : Nat) : Int), .bool true] 64)) := below_new k101 _
                have hnw : (k101.alloc (Obj.cells #[.string nm, .slice A6 jj c6, .int .i64 ((jj : Nat) : Int), .bool true] 64)).rangeAt k101.heap.size 0 [.string nm, .slice A6 jj c6, .int .i64 ((jj : Nat) : Int), .bool true] := cells_new9 _ _ _
                obtain ⟨b1, hb1⟩ : ∃ b1, k101.heap.size = b1 := ⟨_, rfl⟩
                have hb1z : b1 < (k101.alloc (Obj.cells #[.string nm, .slice A6 jj c6, .int .i64 ((jj : Nat) : Int), .bool true] 64)).heap.size := by rw [← hb1]; simp
                generalize k101.alloc (Obj.cells #[.string nm, .slice A6 jj c6, .int .i64 ((jj : Nat) : Int), .bool true] 64) = k102 at *
                have HNW := Lib.hid hnw; clear hnw
                replace hc0 : k102.cell? ⟨g2, 0, none⟩ = some (.slice A2 m2 c2) := (hk.cell (p := ⟨g2, 0, none⟩) (by first | (simp; done) | (simp; omega) | omega)).trans hc0
                replace hnb : k102.cell? ⟨gb, 0, none⟩ = some (.string nm) := (hk.cell (p := ⟨gb, 0, none⟩) (by first | (simp; done) | (simp; omega) | omega)).trans hnb
                replace HD6 := Lib.hid ((HD6.out).below hk)
                replace HO6 := Lib.hid ((HO6.out).below hk)
                replace hb : Below w.heap.size w k102 := hb.trans (hk.mono hb.size)
                have hkz := hk.size
                have hlt2 : g2 < k102.heap.size := (by first | (simp; done) | (simp; omega) | omega)
                have hg6 : gb < k102.heap.size := (by first | (simp; done) | (simp; omega) | omega)
                rw [hb1] at HNW
                try rw [hb1]
                clear hk
                refine hK.out _ _ ?_ (fun hHeld => ?_)
                · trivial
                clear hK K
                try simp only [Act.put, List.setIfInBounds_toArray, List.set_cons_zero, List.set_cons_succ]
                refine wpAnyH_ready (rs := [4]) (by kernel_rfl) (by simp) ?_
                refine AllReadyH.cons (o := { dst := some 57, op := Op.load 27 (Operand.tmp 56), type := 27, pos := "ref.go:113", after := #[{ on := 3, ground := Ground.data }], guard := none }) rfl (fun K hK => ?_) (AllReadyH.nil)
                go_simp
                refine hK.out _ _ ?_ (fun hHeld => ?_)
                · trivial
                clear hK K
                try simp only [Act.put, List.setIfInBounds_toArray, List.set_cons_zero, List.set_cons_succ]
                refine wpAnyH_ready (rs := [12]) (by kernel_rfl) (by simp) ?_
                refine AllReadyH.cons (o := { dst := some 65, op := Op.call { callee := Callee.builtin Builtin.append, args := #[Operand.tmp 57, Operand.tmp 64], argTypes := #[27, 27] }, type := 27, pos := "ref.go:113", after := #[{ on := 4, ground := Ground.data }, { on := 11, ground := Ground.data }], guard := none }) rfl (fun K hK => ?_) (AllReadyH.nil)
                rw [if_pos (by rfl)]
                refine wp_append_fil _ _ rfl g2 g2 _ (.slice A6 jj c6) (crash9 n (l.take k)) 0 b1 (⟨nm, l[k].b.take jj, jj, true⟩ : Fil) HD6.out HO6.out rfl rfl HNW.out hm2l (by omega) (fun k hk => Nat.lt_of_lt_of_le (HNN.out k hk) hb.size) ?_
                intro v12 k103 ho12 hk hbox
                obtain ⟨A12, c12, hv12⟩ := ho12.slice
                obtain ⟨m12, hm12⟩ : ∃ m12, (crash9 n (l.take k) ++ [(⟨nm, l[k].b.take jj, jj, true⟩ : Fil)]).length = m12 := ⟨_, rfl⟩
                rw [hm12] at hv12
                subst hv12
                replace hc0 : k103.cell? ⟨g2, 0, none⟩ = some (.slice A2 m2 c2) := by rw [cell_of_row k103 g2 0 _ _ _ hbox]; rfl
                have hfz : k103.frozen? ⟨g2, 0, none⟩ = false := frozen_of_row k103 g2 0 _ _ hbox
                replace hb : Below w.heap.size w k103 := hb.trans (hk.mono (Nat.le_of_eq hg2))
                have HO12 := Lib.hid ho12
                have HBX12 := Lib.hid hbox
                clear HNW HO6 HD6 hnb ho12 hbox hk
                refine hK.out _ _ ?_ (fun hHeld => ?_)
                · trivial
                clear hK K
                try simp only [Act.put, List.setIfInBounds_toArray, List.set_cons_zero, List.set_cons_succ]
                refine wpAnyH_take (i := 13) (oi := { dst := some 66, op := Op.nilCheck (Operand.tmp 53), type := 0, pos := "ref.go:113", after := #[{ on := 0, ground := Ground.data }, { on := 0, ground := Ground.phase }, { on := 1, ground := Ground.phase }, { on := 2, ground := Ground.phase }, { on := 3, ground := Ground.phase }, { on := 4, ground := Ground.phase }, { on := 5, ground := Ground.phase }, { on := 6, ground := Ground.phase }, { on := 7, ground := Ground.phase }, { on := 8, ground := Ground.phase }, { on := 9, ground := Ground.phase }, { on := 10, ground := Ground.phase }, { on := 11, ground := Ground.phase }, { on := 12, ground := Ground.phase }], guard := none }) (v := .pointer (some ⟨g2, 0, none⟩)) rfl (by kernel_rfl) (by kernel_rfl) (by kernel_rfl) (fun _ _ _ h => h) (Or.inl ⟨by rfl, fun w hSw => ?_⟩) (by assumption) ?_
                · (try dsimp only at hSw)
                  go_simp
                try simp only [Act.put, List.setIfInBounds_toArray, List.set_cons_zero, List.set_cons_succ]
                refine wpAnyH_take (i := 14) (oi := { dst := some 67, op := Op.fieldAddr 29 (Operand.tmp 66) 0, type := 0, pos := "ref.go:113", after := #[{ on := 13, ground := Ground.data }, { on := 0, ground := Ground.phase }, { on := 1, ground := Ground.phase }, { on := 2, ground := Ground.phase }, { on := 3, ground := Ground.phase }, { on := 4, ground := Ground.phase }, { on := 5, ground := Ground.phase }, { on := 6, ground := Ground.phase }, { on := 7, ground := Ground.phase }, { on := 8, ground := Ground.phase }, { on := 9, ground := Ground.phase }, { on := 10, ground := Ground.phase }, { on := 11, ground := Ground.phase }, { on := 12, ground := Ground.phase }], guard := none }) (v := .pointer (some ⟨g2, 0, none⟩)) rfl (by kernel_rfl) (by kernel_rfl) (by kernel_rfl) (fun _ _ _ h => h) (Or.inl ⟨by rfl, fun w hSw => ?_⟩) (by assumption) ?_
                · (try dsimp only at hSw)
                  go_simp
                try simp only [Act.put, List.setIfInBounds_toArray, List.set_cons_zero, List.set_cons_succ]
                refine wpAnyH_ready (rs := [15]) (by kernel_rfl) (by simp) ?_
                refine AllReadyH.cons (o := { dst := none, op := Op.store 27 (Operand.tmp 67) (Operand.tmp 65), type := 0, pos := "ref.go:113", after := #[{ on := 14, ground := Ground.data }, { on := 12, ground := Ground.data }, { on := 12, ground := Ground.chain }, { on := 0, ground := Ground.phase }, { on := 1, ground := Ground.phase }, { on := 2, ground := Ground.phase }, { on := 3, ground := Ground.phase }, { on := 4, ground := Ground.phase }, { on := 5, ground := Ground.phase }, { on := 6, ground := Ground.phase }, { on := 7, ground := Ground.phase }, { on := 8, ground := Ground.phase }, { on := 9, ground := Ground.phase }, { on := 10, ground := Ground.phase }, { on := 11, ground := Ground.phase }, { on := 12, ground := Ground.phase }], guard := none }) rfl (fun K hK => ?_) (AllReadyH.nil)
                go_simp
                refine hK.out _ _ ?_ (fun hHeld => ?_)
                · trivial
                clear hK K
                try simp only [Act.put, List.setIfInBounds_toArray, List.set_cons_zero, List.set_cons_succ]
                refine wpAnyH_done (by kernel_rfl) ?_ _
                refine NoPanic.normal ?_
                have hfin : Dsk N (k103.setCell ⟨g2, 0, none⟩ (.slice A12 m12 c12)) g2 g2 (.slice A12 m12 c12) (crash9 n (l.take (k + 1))) 0 := by
                  rw [HTAKE.out, HLEFT.out]
                  exact ⟨Nat.le_refl _, HAV.out, by rw [heap_setCell_same _ g2 0 _ _ _ HBX12.out]; rfl, HO12.out.far HBX12.out disk_ne_file disk_ne_u8⟩
                have HFIN := Lib.hid hfin
                have HBF := Lib.hid (hb.setCell (p := ⟨g2, 0, none⟩) (Nat.le_of_eq hg2) (.slice A12 m12 c12))
                clear hfin hb
                go_wp2
                refine ⟨⟨k + 1, by go_num, by omega, ⟨_, HFIN.out⟩, HBF.out⟩, by simp [intOf]; omega⟩
          · skip
            obtain ⟨jj, hjj⟩ : ∃ jj, fa + kk = jj := ⟨_, rfl⟩
            have hji : (fa : Int) + (kk : Nat) = (jj : Nat) := by omega
            have hjq : jj ≤ q := by omega
            have hby : Byt W5 gb (.slice Ab jj cb) (l[k].b.take jj) := byt_to9 (c := cb) (by rw [hq]; exact HBY5.out) (by rw [hq]; omega)
            have htl : (l[k].b.take jj).length = jj := by rw [List.length_take, hq]; omega
            have HBY := Lib.hid hby
            clear hby
            have hjc : ((jj : Nat) : Int) ≤ (cb : Nat) := by have := byt_capq9 HBY5.out; omega
            go_wp2_with (at_builtin; refine wpList_append_byt rfl _ _ rfl W5.heap.size _ _ _ _ _ rfl (ownB_nil W5.heap.size _) rfl HBY.out ?x1 (Nat.le_refl _) ?_)
            case x1 => first | omega | (rw [htl]; simp; omega)
            intro v6 W6 ho6 hb6
            obtain ⟨A6, c6, hv6⟩ := own_slice ho6
            rw [htl] at hv6
            subst hv6
            have HO6 := Lib.hid (ownN_of ho6 (fun k hk => Nat.lt_of_lt_of_le (HNN.out k hk) HB5.out.size))
            have hg6 : gb < W6.heap.size := Nat.lt_of_lt_of_le hg5 hb6.size
            have HR6 := Lib.hid (rng_below9 HR5.out hb6 hg5)
            have HD6 := Lib.hid (HD5.out.below hb6)
            have HB6 := Lib.hid (HB5.out.trans (hb6.mono (by omega)))
            obtain ⟨A2, c2, hv2⟩ := HD6.out.own.slice
            obtain ⟨m2, hm2⟩ : ∃ m2, (crash9 n (l.take k)).length = m2 := ⟨_, rfl⟩
            have hm2l : (crash9 n (l.take k)).length ≤ 1000 := by have := crash9_lenq n (l.take k); rw [List.length_take] at this; omega
            rw [hm2] at hv2
            subst hv2
            have hc0 := HD6.out.cell0
            have hnb : W6.cell? ⟨gb, 0, none⟩ = some (.string nm) := HR6.out 0 _ rfl
            have hb := HB6.out
            have hlt2 : g2 < W6.heap.size := HD6.out.lt
            have hleft : left9 n l[k] = [⟨nm, l[k].b.take jj, jj, true⟩] := by
              unfold left9
              rw [hkk, hfa, hnm, if_pos (by first | exact .inl hth | exact .inr hk0), hjj]
              try rfl
            have HLEFT := Lib.hid hleft
            clear ho6 hb6 HBY HR5 HD5 HB5 HB6 HR6 b1 b2 b3 hleft
            go_upto_region 11 with fail
            replace hc0 : W6.drew.cell? ⟨g2, 0, none⟩ = some (.slice A2 m2 c2) := hc0
            replace hnb : W6.drew.cell? ⟨gb, 0, none⟩ = some (.string nm) := hnb
            replace HD6 := Lib.hid ((HD6.out).below ((Below.refl W6.heap.size W6).drew))
            replace HO6 := Lib.hid ((HO6.out).below ((Below.refl W6.heap.size W6).drew))
            refine wp_region_noPanic ?_
            refine wp_region_held_drew (S := fun W => True) (by kernel_rfl) ?_ (fun hHeld => ?_)
            · trivial
            replace hb : Below w.heap.size w W6.drew := hb.drew
            replace hlt2 : g2 < W6.drew.heap.size := hlt2
            replace hg6 : gb < W6.drew.heap.size := hg6
            have hzd : W6.heap.size ≤ W6.drew.heap.size := Nat.le_refl _
            generalize W6.drew = k101 at *
            refine wpAnyH_take (i := 0) (oi := { dst := some 53, op := Op.move (Operand.tmp 5), type := 26, pos := "ref.go:113", after := #[], guard := none }) (v := .pointer (some ⟨g2, 0, none⟩)) rfl (by kernel_rfl) (by kernel_rfl) (by kernel_rfl) (fun _ _ _ h => h) (Or.inl ⟨by rfl, fun w hSw => ?_⟩) (by assumption) ?_
            · (try dsimp only at hSw)
              go_simp
            try simp only [Act.put, List.setIfInBounds_toArray, List.set_cons_zero, List.set_cons_succ]
            refine wpAnyH_take (i := 1) (oi := { dst := some 54, op := Op.move (Operand.tmp 5), type := 26, pos := "ref.go:113", after := #[], guard := none }) (v := .pointer (some ⟨g2, 0, none⟩)) rfl (by kernel_rfl) (by kernel_rfl) (by kernel_rfl) (fun _ _ _ h => h) (Or.inl ⟨by rfl, fun w hSw => ?_⟩) (by assumption) ?_
            · (try dsimp only at hSw)
              go_simp
            try simp only [Act.put, List.setIfInBounds_toArray, List.set_cons_zero, List.set_cons_succ]
            refine wpAnyH_take (i := 2) (oi := { dst := some 55, op := Op.nilCheck (Operand.tmp 54), type := 0, pos := "ref.go:113", after := #[{ on := 1, ground := Ground.data }], guard := none }) (v := .pointer (some ⟨g2, 0, none⟩)) rfl (by kernel_rfl) (by kernel_rfl) (by kernel_rfl) (fun _ _ _ h => h) (Or.inl ⟨by rfl, fun w hSw => ?_⟩) (by assumption) ?_
            · (try dsimp only at hSw)
              go_simp
            try simp only [Act.put, List.setIfInBounds_toArray, List.set_cons_zero, List.set_cons_succ]
            refine wpAnyH_take (i := 3) (oi := { dst := some 56, op := Op.fieldAddr 29 (Operand.tmp 55) 0, type := 0, pos := "ref.go:113", after := #[{ on := 2, ground := Ground.data }], guard := none }) (v := .pointer (some ⟨g2, 0, none⟩)) rfl (by kernel_rfl) (by kernel_rfl) (by kernel_rfl) (fun _ _ _ h => h) (Or.inl ⟨by rfl, fun w hSw => ?_⟩) (by assumption) ?_
            · (try dsimp only at hSw)
              go_simp
            try simp only [Act.put, List.setIfInBounds_toArray, List.set_cons_zero, List.set_cons_succ]
            refine wpAnyH_take (i := 5) (oi := { dst := some 58, op := Op.fieldAddr 64 (Operand.tmp 7) 0, type := 0, pos := "ref.go:113", after := #[], guard := none }) (v := .pointer (some ⟨gb, 0, none⟩)) rfl (by kernel_rfl) (by kernel_rfl) (by kernel_rfl) (fun _ _ _ h => h) (Or.inl ⟨by rfl, fun w hSw => ?_⟩) (by assumption) ?_
            · (try dsimp only at hSw)
              go_simp
            try simp only [Act.put, List.setIfInBounds_toArray, List.set_cons_zero, List.set_cons_succ]
            refine wpAnyH_take (i := 7) (oi := { dst := some 60, op := Op.move (Operand.tmp 9), type := 30, pos := "ref.go:113", after := #[], guard := none }) (v := .slice A6 jj c6) rfl (by kernel_rfl) (by kernel_rfl) (by kernel_rfl) (fun _ _ _ h => h) (Or.inl ⟨by rfl, fun w hSw => ?_⟩) (by assumption) ?_
            · (try dsimp only at hSw)
              go_simp
            try simp only [Act.put, List.setIfInBounds_toArray, List.set_cons_zero, List.set_cons_succ]
            refine wpAnyH_take (i := 8) (oi := { dst := some 61, op := Op.move (Operand.tmp 9), type := 30, pos := "ref.go:113", after := #[], guard := none }) (v := .slice A6 jj c6) rfl (by kernel_rfl) (by kernel_rfl) (by kernel_rfl) (fun _ _ _ h => h) (Or.inl ⟨by rfl, fun w hSw => ?_⟩) (by assumption) ?_
            · (try dsimp only at hSw)
              go_simp
            try simp only [Act.put, List.setIfInBounds_toArray, List.set_cons_zero, List.set_cons_succ]
            refine wpAnyH_take (i := 9) (oi := { dst := some 62, op := Op.call { callee := Callee.builtin Builtin.len, args := #[Operand.tmp 61], argTypes := #[30] }, type := 3, pos := "ref.go:113", after := #[{ on := 8, ground := Ground.data }], guard := none }) (v := .int .i64 ((jj : Nat) : Int)) rfl (by kernel_rfl) (by kernel_rfl) (by kernel_rfl) (fun _ _ _ h => h) (Or.inl ⟨by rfl, fun w hSw => ?_⟩) (by assumption) ?_
            · (try dsimp only at hSw)
              go_simp
            try simp only [Act.put, List.setIfInBounds_toArray, List.set_cons_zero, List.set_cons_succ]
            refine wpAnyH_ready (rs := [4, 6]) (by kernel_rfl) (by simp) ?_
            refine AllReadyH.cons (o := { dst := some 57, op := Op.load 27 (Operand.tmp 56), type := 27, pos := "ref.go:113", after := #[{ on := 3, ground := Ground.data }], guard := none }) rfl (fun K hK => ?_) (AllReadyH.cons (o := { dst := some 59, op := Op.load 9 (Operand.tmp 58), type := 9, pos := "ref.go:113", after := #[{ on := 5, ground := Ground.data }], guard := none }) rfl (fun K hK => ?_) (AllReadyH.nil))
            · go_simp
              refine hK.out _ _ ?_ (fun hHeld => ?_)
              · trivial
              clear hK K
              try simp only [Act.put, List.setIfInBounds_toArray, List.set_cons_zero, List.set_cons_succ]
              refine wpAnyH_ready (rs := [6]) (by kernel_rfl) (by simp) ?_
              refine AllReadyH.cons (o := { dst := some 59, op := Op.load 9 (Operand.tmp 58), type := 9, pos := "ref.go:113", after := #[{ on := 5, ground := Ground.data }], guard := none }) rfl (fun K hK => ?_) (AllReadyH.nil)
              go_simp
              refine hK.out _ _ ?_ (fun hHeld => ?_)
              · trivial
              clear hK K
              try simp only [Act.put, List.setIfInBounds_toArray, List.set_cons_zero, List.set_cons_succ]
              refine wpAnyH_take (i := 10) (oi := { dst := some 63, op := Op.build 64 #[(0, Operand.tmp 59), (1, Operand.tmp 60), (2, Operand.tmp 62), (3, Operand.const (Value.bool true))], type := 64, pos := "ref.go:113", after := #[{ on := 6, ground := Ground.data }, { on := 7, ground := Ground.data }, { on := 9, ground := Ground.data }], guard := none }) (v := .agg #[.string nm, .slice A6 jj c6, .int .i64 ((jj : Nat) : Int), .bool true]) rfl (by kernel_rfl) (by kernel_rfl) (by kernel_rfl) (fun _ _ _ h => h) (Or.inl ⟨by rfl, fun w hSw => ?_⟩) (by assumption) ?_
              · (try dsimp only at hSw)
                go_simp
              try simp only [Act.put, List.setIfInBounds_toArray, List.set_cons_zero, List.set_cons_succ]
              refine wpAnyH_ready (rs := [11]) (by kernel_rfl) (by simp) ?_
              refine AllReadyH.cons (o := { dst := some 64, op := Op.buildSlice 27 1 #[(0, Operand.tmp 63)], type := 27, pos := "ref.go:113", after := #[{ on := 10, ground := Ground.data }], guard := none }) rfl (fun K hK => ?_) (AllReadyH.nil)
              go_simp
              have hk : Below k101.heap.size k101 (k101.alloc (Obj.cells #[.string nm, .slice A6 jj c6, .int .i64 ((jj : Nat) : Int), .bool true] 64)) := below_new k101 _
              have hnw : (k101.alloc (Obj.cells #[.string nm, .slice A6 jj c6, .int .i64 ((jj : Nat) : Int), .bool true] 64)).rangeAt k101.heap.size 0 [.string nm, .slice A6 jj c6, .int .i64 ((jj : Nat) : Int), .bool true] := cells_new9 _ _ _
              obtain ⟨b1, hb1⟩ : ∃ b1, k101.heap.size = b1 := ⟨_, rfl⟩
              have hb1z : b1 < (k101.alloc (Obj.cells #[.string nm, .slice A6 jj c6, .int .i64 ((jj : Nat) : Int), .bool true] 64)).heap.size := by rw [← hb1]; simp
              generalize k101.alloc (Obj.cells #[.string nm, .slice A6 jj c6, .int .i64 ((jj : Nat) : Int), .bool true] 64) = k102 at *
              have HNW := Lib.hid hnw; clear hnw
              replace hc0 : k102.cell? ⟨g2, 0, none⟩ = some (.slice A2 m2 c2) := (hk.cell (p := ⟨g2, 0, none⟩) (by first | (simp; done) | (simp; omega) | omega)).trans hc0
              replace hnb : k102.cell? ⟨gb, 0, none⟩ = some (.string nm) := (hk.cell (p := ⟨gb, 0, none⟩) (by first | (simp; done) | (simp; omega) | omega)).trans hnb
              replace HD6 := Lib.hid ((HD6.out).below hk)
              replace HO6 := Lib.hid ((HO6.out).below hk)
              replace hb : Below w.heap.size w k102 := hb.trans (hk.mono hb.size)
              have hkz := hk.size
              have hlt2 : g2 < k102.heap.size := (by first | (simp; done) | (simp; omega) | omega)
              have hg6 : gb < k102.heap.size := (by first | (simp; done) | (simp; omega) | omega)
              rw [hb1] at HNW
              try rw [hb1]
              clear hk
              refine hK.out _ _ ?_ (fun hHeld => ?_)
              · trivial
              clear hK K
              try simp only [Act.put, List.setIfInBounds_toArray, List.set_cons_zero, List.set_cons_succ]
              refine wpAnyH_ready (rs := [12]) (by kernel_rfl) (by simp) ?_
              refine AllReadyH.cons (o := { dst := some 65, op := Op.call { callee := Callee.builtin Builtin.append, args := #[Operand.tmp 57, Operand.tmp 64], argTypes := #[27, 27] }, type := 27, pos := "ref.go:113", after := #[{ on := 4, ground := Ground.data }, { on := 11, ground := Ground.data }], guard := none }) rfl (fun K hK => ?_) (AllReadyH.nil)
              rw [if_pos (by rfl)]
              refine wp_append_fil _ _ rfl g2 g2 _ (.slice A6 jj c6) (crash9 n (l.take k)) 0 b1 (⟨nm, l[k].b.take jj, jj, true⟩ : Fil) HD6.out HO6.out rfl rfl HNW.out hm2l (by omega) (fun k hk => Nat.lt_of_lt_of_le (HNN.out k hk) hb.size) ?_
              intro v12 k103 ho12 hk hbox
              obtain ⟨A12, c12, hv12⟩ := ho12.slice
              obtain ⟨m12, hm12⟩ : ∃ m12, (crash9 n (l.take k) ++ [(⟨nm, l[k].b.take jj, jj, true⟩ : Fil)]).length = m12 := ⟨_, rfl⟩
              rw [hm12] at hv12
              subst hv12
              replace hc0 : k103.cell? ⟨g2, 0, none⟩ = some (.slice A2 m2 c2) := by rw [cell_of_row k103 g2 0 _ _ _ hbox]; rfl
              have hfz : k103.frozen? ⟨g2, 0, none⟩ = false := frozen_of_row k103 g2 0 _ _ hbox
              replace hb : Below w.heap.size w k103 := hb.trans (hk.mono (Nat.le_of_eq hg2))
              have HO12 := Lib.hid ho12
              have HBX12 := Lib.hid hbox
              clear HNW HO6 HD6 hnb ho12 hbox hk
              refine hK.out _ _ ?_ (fun hHeld => ?_)
              · trivial
              clear hK K
              try simp only [Act.put, List.setIfInBounds_toArray, List.set_cons_zero, List.set_cons_succ]
              refine wpAnyH_take (i := 13) (oi := { dst := some 66, op := Op.nilCheck (Operand.tmp 53), type := 0, pos := "ref.go:113", after := #[{ on := 0, ground := Ground.data }, { on := 0, ground := Ground.phase }, { on := 1, ground := Ground.phase }, { on := 2, ground := Ground.phase }, { on := 3, ground := Ground.phase }, { on := 4, ground := Ground.phase }, { on := 5, ground := Ground.phase }, { on := 6, ground := Ground.phase }, { on := 7, ground := Ground.phase }, { on := 8, ground := Ground.phase }, { on := 9, ground := Ground.phase }, { on := 10, ground := Ground.phase }, { on := 11, ground := Ground.phase }, { on := 12, ground := Ground.phase }], guard := none }) (v := .pointer (some ⟨g2, 0, none⟩)) rfl (by kernel_rfl) (by kernel_rfl) (by kernel_rfl) (fun _ _ _ h => h) (Or.inl ⟨by rfl, fun w hSw => ?_⟩) (by assumption) ?_
              · (try dsimp only at hSw)
                go_simp
              try simp only [Act.put, List.setIfInBounds_toArray, List.set_cons_zero, List.set_cons_succ]
              refine wpAnyH_take (i := 14) (oi := { dst := some 67, op := Op.fieldAddr 29 (Operand.tmp 66) 0, type := 0, pos := "ref.go:113", after := #[{ on := 13, ground := Ground.data }, { on := 0, ground := Ground.phase }, { on := 1, ground := Ground.phase }, { on := 2, ground := Ground.phase }, { on := 3, ground := Ground.phase }, { on := 4, ground := Ground.phase }, { on := 5, ground := Ground.phase }, { on := 6, ground := Ground.phase }, { on := 7, ground := Ground.phase }, { on := 8, ground := Ground.phase }, { on := 9, ground := Ground.phase }, { on := 10, ground := Ground.phase }, { on := 11, ground := Ground.phase }, { on := 12, ground := Ground.phase }], guard := none }) (v := .pointer (some ⟨g2, 0, none⟩)) rfl (by kernel_rfl) (by kernel_rfl) (by kernel_rfl) (fun _ _ _ h => h) (Or.inl ⟨by rfl, fun w hSw => ?_⟩) (by assumption) ?_
              · (try dsimp only at hSw)
                go_simp
              try simp only [Act.put, List.setIfInBounds_toArray, List.set_cons_zero, List.set_cons_succ]
              refine wpAnyH_ready (rs := [15]) (by kernel_rfl) (by simp) ?_
              refine AllReadyH.cons (o := { dst := none, op := Op.store 27 (Operand.tmp 67) (Operand.tmp 65), type := 0, pos := "ref.go:113", after := #[{ on := 14, ground := Ground.data }, { on := 12, ground := Ground.data }, { on := 12, ground := Ground.chain }, { on := 0, ground := Ground.phase }, { on := 1, ground := Ground.phase }, { on := 2, ground := Ground.phase }, { on := 3, ground := Ground.phase }, { on := 4, ground := Ground.phase }, { on := 5, ground := Ground.phase }, { on := 6, ground := Ground.phase }, { on := 7, ground := Ground.phase }, { on := 8, ground := Ground.phase }, { on := 9, ground := Ground.phase }, { on := 10, ground := Ground.phase }, { on := 11, ground := Ground.phase }, { on := 12, ground := Ground.phase }], guard := none }) rfl (fun K hK => ?_) (AllReadyH.nil)
              go_simp
              refine hK.out _ _ ?_ (fun hHeld => ?_)
              · trivial
              clear hK K
              try simp only [Act.put, List.setIfInBounds_toArray, List.set_cons_zero, List.set_cons_succ]
              refine wpAnyH_done (by kernel_rfl) ?_ _
              refine NoPanic.normal ?_
              have hfin : Dsk N (k103.setCell ⟨g2, 0, none⟩ (.slice A12 m12 c12)) g2 g2 (.slice A12 m12 c12) (crash9 n (l.take (k + 1))) 0 := by
                rw [HTAKE.out, HLEFT.out]
                exact ⟨Nat.le_refl _, HAV.out, by rw [heap_setCell_same _ g2 0 _ _ _ HBX12.out]; rfl, HO12.out.far HBX12.out disk_ne_file disk_ne_u8⟩
              have HFIN := Lib.hid hfin
              have HBF := Lib.hid (hb.setCell (p := ⟨g2, 0, none⟩) (Nat.le_of_eq hg2) (.slice A12 m12 c12))
              clear hfin hb
              go_wp2
              refine ⟨⟨k + 1, by go_num, by omega, ⟨_, HFIN.out⟩, HBF.out⟩, by simp [intOf]; omega⟩
            · go_simp
              refine hK.out _ _ ?_ (fun hHeld => ?_)
              · trivial
              clear hK K
              try simp only [Act.put, List.setIfInBounds_toArray, List.set_cons_zero, List.set_cons_succ]
              refine wpAnyH_take (i := 10) (oi := { dst := some 63, op := Op.build 64 #[(0, Operand.tmp 59), (1, Operand.tmp 60), (2, Operand.tmp 62), (3, Operand.const (Value.bool true))], type := 64, pos := "ref.go:113", after := #[{ on := 6, ground := Ground.data }, { on := 7, ground := Ground.data }, { on := 9, ground := Ground.data }], guard := none }) (v := .agg #[.string nm, .slice A6 jj c6, .int .i64 ((jj : Nat) : Int), .bool true]) rfl (by kernel_rfl) (by kernel_rfl) (by kernel_rfl) (fun _ _ _ h => h) (Or.inl ⟨by rfl, fun w hSw => ?_⟩) (by assumption) ?_
              · (try dsimp only at hSw)
                go_simp
              try simp only [Act.put, List.setIfInBounds_toArray, List.set_cons_zero, List.set_cons_succ]
              refine wpAnyH_ready (rs := [4, 11]) (by kernel_rfl) (by simp) ?_
              refine AllReadyH.cons (o := { dst := some 57, op := Op.load 27 (Operand.tmp 56), type := 27, pos := "ref.go:113", after := #[{ on := 3, ground := Ground.data }], guard := none }) rfl (fun K hK => ?_) (AllReadyH.cons (o := { dst := some 64, op := Op.buildSlice 27 1 #[(0, Operand.tmp 63)], type := 27, pos := "ref.go:113", after := #[{ on := 10, ground := Ground.data }], guard := none }) rfl (fun K hK => ?_) (AllReadyH.nil))
              · go_simp
                refine hK.out _ _ ?_ (fun hHeld => ?_)
                · trivial
                clear hK K
                try simp only [Act.put, List.setIfInBounds_toArray, List.set_cons_zero, List.set_cons_succ]
                refine wpAnyH_ready (rs := [11]) (by kernel_rfl) (by simp) ?_
                refine AllReadyH.cons (o := { dst := some 64, op := Op.buildSlice 27 1 #[(0, Operand.tmp 63)], type := 27, pos := "ref.go:113", after := #[{ on := 10, ground := Ground.data }], guard := none }) rfl (fun K hK => ?_) (AllReadyH.nil)
                go_simp
                have hk : Below k101.heap.size k101 (k101.alloc (Obj.cells #[.string nm, .slice A6 jj c6, .int .i64 ((jj : Nat) : Int), .bool true] 64)) := below_new k101 _
                have hnw : (k101.alloc (Obj.cells #[.string nm, .slice A6 jj c6, .int .i64 ((jj : Nat) : Int), .bool true] 64)).rangeAt k101.heap.size 0 [.string nm, .slice A6 jj c6, .int .i64 ((jj : Nat) : Int), .bool true] := cells_new9 _ _ _
                obtain ⟨b1, hb1⟩ : ∃ b1, k101.heap.size = b1 := ⟨_, rfl⟩
                have hb1z : b1 < (k101.alloc (Obj.cells #[.string nm, .slice A6 jj c6, .int .i64 ((jj : Nat) : Int), .bool true] 64)).heap.size := by rw [← hb1]; simp
                generalize k101.alloc (Obj.cells #[.string nm, .slice A6 jj c6, .int .i64 ((jj : Nat) : Int), .bool true] 64) = k102 at *
                have HNW := Lib.hid hnw; clear hnw
                replace hc0 : k102.cell? ⟨g2, 0, none⟩ = some (.slice A2 m2 c2) := (hk.cell (p := ⟨g2, 0, none⟩) (by first | (simp; done) | (simp; omega) | omega)).trans hc0
                replace hnb : k102.cell? ⟨gb, 0, none⟩ = some (.string nm) := (hk.cell (p := ⟨gb, 0, none⟩) (by first | (simp; done) | (simp; omega) | omega)).trans hnb
                replace HD6 := Lib.hid ((HD6.out).below hk)
                replace HO6 := Lib.hid ((HO6.out).below hk)
                replace hb : Below w.heap.size w k102 := hb.trans (hk.mono hb.size)
                have hkz := hk.size
                have hlt2 : g2 < k102.heap.size := (by first | (simp; done) | (simp; omega) | omega)
                have hg6 : gb < k102.heap.size := (by first | (simp; done) | (simp; omega) | omega)
                rw [hb1] at HNW
                try rw [hb1]
                clear hk
                refine hK.out _ _ ?_ (fun hHeld => ?_)
                · trivial
                clear hK K
                try simp only [Act.put, List.setIfInBounds_toArray, List.set_cons_zero, List.set_cons_succ]
                refine wpAnyH_ready (rs := [12]) (by kernel_rfl) (by simp) ?_
                refine AllReadyH.cons (o := { dst := some 65, op := Op.call { callee := Callee.builtin Builtin.append, args := #[Operand.tmp 57, Operand.tmp 64], argTypes := #[27, 27] }, type := 27, pos := "ref.go:113", after := #[{ on := 4, ground := Ground.data }, { on := 11, ground := Ground.data }], guard := none }) rfl (fun K hK => ?_) (AllReadyH.nil)
                rw [if_pos (by rfl)]
                refine wp_append_fil _ _ rfl g2 g2 _ (.slice A6 jj c6) (crash9 n (l.take k)) 0 b1 (⟨nm, l[k].b.take jj, jj, true⟩ : Fil) HD6.out HO6.out rfl rfl HNW.out hm2l (by omega) (fun k hk => Nat.lt_of_lt_of_le (HNN.out k hk) hb.size) ?_
                intro v12 k103 ho12 hk hbox
                obtain ⟨A12, c12, hv12⟩ := ho12.slice
                obtain ⟨m12, hm12⟩ : ∃ m12, (crash9 n (l.take k) ++ [(⟨nm, l[k].b.take jj, jj, true⟩ : Fil)]).length = m12 := ⟨_, rfl⟩
                rw [hm12] at hv12
                subst hv12
                replace hc0 : k103.cell? ⟨g2, 0, none⟩ = some (.slice A2 m2 c2) := by rw [cell_of_row k103 g2 0 _ _ _ hbox]; rfl
                have hfz : k103.frozen? ⟨g2, 0, none⟩ = false := frozen_of_row k103 g2 0 _ _ hbox
                replace hb : Below w.heap.size w k103 := hb.trans (hk.mono (Nat.le_of_eq hg2))
                have HO12 := Lib.hid ho12
                have HBX12 := Lib.hid hbox
                clear HNW HO6 HD6 hnb ho12 hbox hk
                refine hK.out _ _ ?_ (fun hHeld => ?_)
                · trivial
                clear hK K
                try simp only [Act.put, List.setIfInBounds_toArray, List.set_cons_zero, List.set_cons_succ]
                refine wpAnyH_take (i := 13) (oi := { dst := some 66, op := Op.nilCheck (Operand.tmp 53), type := 0, pos := "ref.go:113", after := #[{ on := 0, ground := Ground.data }, { on := 0, ground := Ground.phase }, { on := 1, ground := Ground.phase }, { on := 2, ground := Ground.phase }, { on := 3, ground := Ground.phase }, { on := 4, ground := Ground.phase }, { on := 5, ground := Ground.phase }, { on := 6, ground := Ground.phase }, { on := 7, ground := Ground.phase }, { on := 8, ground := Ground.phase }, { on := 9, ground := Ground.phase }, { on := 10, ground := Ground.phase }, { on := 11, ground := Ground.phase }, { on := 12, ground := Ground.phase }], guard := none }) (v := .pointer (some ⟨g2, 0, none⟩)) rfl (by kernel_rfl) (by kernel_rfl) (by kernel_rfl) (fun _ _ _ h => h) (Or.inl ⟨by rfl, fun w hSw => ?_⟩) (by assumption) ?_
                · (try dsimp only at hSw)
                  go_simp
                try simp only [Act.put, List.setIfInBounds_toArray, List.set_cons_zero, List.set_cons_succ]
                refine wpAnyH_take (i := 14) (oi := { dst := some 67, op := Op.fieldAddr 29 (Operand.tmp 66) 0, type := 0, pos := "ref.go:113", after := #[{ on := 13, ground := Ground.data }, { on := 0, ground := Ground.phase }, { on := 1, ground := Ground.phase }, { on := 2, ground := Ground.phase }, { on := 3, ground := Ground.phase }, { on := 4, ground := Ground.phase }, { on := 5, ground := Ground.phase }, { on := 6, ground := Ground.phase }, { on := 7, ground := Ground.phase }, { on := 8, ground := Ground.phase }, { on := 9, ground := Ground.phase }, { on := 10, ground := Ground.phase }, { on := 11, ground := Ground.phase }, { on := 12, ground := Ground.phase }], guard := none }) (v := .pointer (some ⟨g2, 0, none⟩)) rfl (by kernel_rfl) (by kernel_rfl) (by kernel_rfl) (fun _ _ _ h => h) (Or.inl ⟨by rfl, fun w hSw => ?_⟩) (by assumption) ?_
                · (try dsimp only at hSw)
                  go_simp
                try simp only [Act.put, List.setIfInBounds_toArray, List.set_cons_zero, List.set_cons_succ]
                refine wpAnyH_ready (rs := [15]) (by kernel_rfl) (by simp) ?_
                refine AllReadyH.cons (o := { dst := none, op := Op.store 27 (Operand.tmp 67) (Operand.tmp 65), type := 0, pos := "ref.go:113", after := #[{ on := 14, ground := Ground.data }, { on := 12, ground := Ground.data }, { on := 12, ground := Ground.chain }, { on := 0, ground := Ground.phase }, { on := 1, ground := Ground.phase }, { on := 2, ground := Ground.phase }, { on := 3, ground := Ground.phase }, { on := 4, ground := Ground.phase }, { on := 5, ground := Ground.phase }, { on := 6, ground := Ground.phase }, { on := 7, ground := Ground.phase }, { on := 8, ground := Ground.phase }, { on := 9, ground := Ground.phase }, { on := 10, ground := Ground.phase }, { on := 11, ground := Ground.phase }, { on := 12, ground := Ground.phase }], guard := none }) rfl (fun K hK => ?_) (AllReadyH.nil)
                go_simp
                refine hK.out _ _ ?_ (fun hHeld => ?_)
                · trivial
                clear hK K
                try simp only [Act.put, List.setIfInBounds_toArray, List.set_cons_zero, List.set_cons_succ]
                refine wpAnyH_done (by kernel_rfl) ?_ _
                refine NoPanic.normal ?_
                have hfin : Dsk N (k103.setCell ⟨g2, 0, none⟩ (.slice A12 m12 c12)) g2 g2 (.slice A12 m12 c12) (crash9 n (l.take (k + 1))) 0 := by
                  rw [HTAKE.out, HLEFT.out]
                  exact ⟨Nat.le_refl _, HAV.out, by rw [heap_setCell_same _ g2 0 _ _ _ HBX12.out]; rfl, HO12.out.far HBX12.out disk_ne_file disk_ne_u8⟩
                have HFIN := Lib.hid hfin
                have HBF := Lib.hid (hb.setCell (p := ⟨g2, 0, none⟩) (Nat.le_of_eq hg2) (.slice A12 m12 c12))
                clear hfin hb
                go_wp2
                refine ⟨⟨k + 1, by go_num, by omega, ⟨_, HFIN.out⟩, HBF.out⟩, by simp [intOf]; omega⟩
              · go_simp
                have hk : Below k101.heap.size k101 (k101.alloc (Obj.cells #[.string nm, .slice A6 jj c6, .int .i64 ((jj : Nat) : Int), .bool true] 64)) := below_new k101 _
                have hnw : (k101.alloc (Obj.cells #[.string nm, .slice A6 jj c6, .int .i64 ((jj : Nat) : Int), .bool true] 64)).rangeAt k101.heap.size 0 [.string nm, .slice A6 jj c6, .int .i64 ((jj : Nat) : Int), .bool true] := cells_new9 _ _ _
                obtain ⟨b1, hb1⟩ : ∃ b1, k101.heap.size = b1 := ⟨_, rfl⟩
                have hb1z : b1 < (k101.alloc (Obj.cells #[.string nm, .slice A6 jj c6, .int .i64 ((jj : Nat) : Int), .bool true] 64)).heap.size := by rw [← hb1]; simp
                generalize k101.alloc (Obj.cells #[.string nm, .slice A6 jj c6, .int .i64 ((jj : Nat) : Int), .bool true] 64) = k102 at *
                have HNW := Lib.hid hnw; clear hnw
                replace hc0 : k102.cell? ⟨g2, 0, none⟩ = some (.slice A2 m2 c2) := (hk.cell (p := ⟨g2, 0, none⟩) (by first | (simp; done) | (simp; omega) | omega)).trans hc0
                replace hnb : k102.cell? ⟨gb, 0, none⟩ = some (.string nm) := (hk.cell (p := ⟨gb, 0, none⟩) (by first | (simp; done) | (simp; omega) | omega)).trans hnb
                replace HD6 := Lib.hid ((HD6.out).below hk)
                replace HO6 := Lib.hid ((HO6.out).below hk)
                replace hb : Below w.heap.size w k102 := hb.trans (hk.mono hb.size)
                have hkz := hk.size
                have hlt2 : g2 < k102.heap.size := (by first | (simp; done) | (simp; omega) | omega)
                have hg6 : gb < k102.heap.size := (by first | (simp; done) | (simp; omega) | omega)
                rw [hb1] at HNW
                try rw [hb1]
                clear hk
                refine hK.out _ _ ?_ (fun hHeld => ?_)
                · trivial
                clear hK K
                try simp only [Act.put, List.setIfInBounds_toArray, List.set_cons_zero, List.set_cons_succ]
                refine wpAnyH_ready (rs := [4]) (by kernel_rfl) (by simp) ?_
                refine AllReadyH.cons (o := { dst := some 57, op := Op.load 27 (Operand.tmp 56), type := 27, pos := "ref.go:113", after := #[{ on := 3, ground := Ground.data }], guard := none }) rfl (fun K hK => ?_) (AllReadyH.nil)
                go_simp
                refine hK.out _ _ ?_ (fun hHeld => ?_)
                · trivial
                clear hK K
                try simp only [Act.put, List.setIfInBounds_toArray, List.set_cons_zero, List.set_cons_succ]
                refine wpAnyH_ready (rs := [12]) (by kernel_rfl) (by simp) ?_
                refine AllReadyH.cons (o := { dst := some 65, op := Op.call { callee := Callee.builtin Builtin.append, args := #[Operand.tmp 57, Operand.tmp 64], argTypes := #[27, 27] }, type := 27, pos := "ref.go:113", after := #[{ on := 4, ground := Ground.data }, { on := 11, ground := Ground.data }], guard := none }) rfl (fun K hK => ?_) (AllReadyH.nil)
                rw [if_pos (by rfl)]
                refine wp_append_fil _ _ rfl g2 g2 _ (.slice A6 jj c6) (crash9 n (l.take k)) 0 b1 (⟨nm, l[k].b.take jj, jj, true⟩ : Fil) HD6.out HO6.out rfl rfl HNW.out hm2l (by omega) (fun k hk => Nat.lt_of_lt_of_le (HNN.out k hk) hb.size) ?_
                intro v12 k103 ho12 hk hbox
                obtain ⟨A12, c12, hv12⟩ := ho12.slice
                obtain ⟨m12, hm12⟩ : ∃ m12, (crash9 n (l.take k) ++ [(⟨nm, l[k].b.take jj, jj, true⟩ : Fil)]).length = m12 := ⟨_, rfl⟩
                rw [hm12] at hv12
                subst hv12
                replace hc0 : k103.cell? ⟨g2, 0, none⟩ = some (.slice A2 m2 c2) := by rw [cell_of_row k103 g2 0 _ _ _ hbox]; rfl
                have hfz : k103.frozen? ⟨g2, 0, none⟩ = false := frozen_of_row k103 g2 0 _ _ hbox
                replace hb : Below w.heap.size w k103 := hb.trans (hk.mono (Nat.le_of_eq hg2))
                have HO12 := Lib.hid ho12
                have HBX12 := Lib.hid hbox
                clear HNW HO6 HD6 hnb ho12 hbox hk
                refine hK.out _ _ ?_ (fun hHeld => ?_)
                · trivial
                clear hK K
                try simp only [Act.put, List.setIfInBounds_toArray, List.set_cons_zero, List.set_cons_succ]
                refine wpAnyH_take (i := 13) (oi := { dst := some 66, op := Op.nilCheck (Operand.tmp 53), type := 0, pos := "ref.go:113", after := #[{ on := 0, ground := Ground.data }, { on := 0, ground := Ground.phase }, { on := 1, ground := Ground.phase }, { on := 2, ground := Ground.phase }, { on := 3, ground := Ground.phase }, { on := 4, ground := Ground.phase }, { on := 5, ground := Ground.phase }, { on := 6, ground := Ground.phase }, { on := 7, ground := Ground.phase }, { on := 8, ground := Ground.phase }, { on := 9, ground := Ground.phase }, { on := 10, ground := Ground.phase }, { on := 11, ground := Ground.phase }, { on := 12, ground := Ground.phase }], guard := none }) (v := .pointer (some ⟨g2, 0, none⟩)) rfl (by kernel_rfl) (by kernel_rfl) (by kernel_rfl) (fun _ _ _ h => h) (Or.inl ⟨by rfl, fun w hSw => ?_⟩) (by assumption) ?_
                · (try dsimp only at hSw)
                  go_simp
                try simp only [Act.put, List.setIfInBounds_toArray, List.set_cons_zero, List.set_cons_succ]
                refine wpAnyH_take (i := 14) (oi := { dst := some 67, op := Op.fieldAddr 29 (Operand.tmp 66) 0, type := 0, pos := "ref.go:113", after := #[{ on := 13, ground := Ground.data }, { on := 0, ground := Ground.phase }, { on := 1, ground := Ground.phase }, { on := 2, ground := Ground.phase }, { on := 3, ground := Ground.phase }, { on := 4, ground := Ground.phase }, { on := 5, ground := Ground.phase }, { on := 6, ground := Ground.phase }, { on := 7, ground := Ground.phase }, { on := 8, ground := Ground.phase }, { on := 9, ground := Ground.phase }, { on := 10, ground := Ground.phase }, { on := 11, ground := Ground.phase }, { on := 12, ground := Ground.phase }], guard := none }) (v := .pointer (some ⟨g2, 0, none⟩)) rfl (by kernel_rfl) (by kernel_rfl) (by kernel_rfl) (fun _ _ _ h => h) (Or.inl ⟨by rfl, fun w hSw => ?_⟩) (by assumption) ?_
                · (try dsimp only at hSw)
                  go_simp
                try simp only [Act.put, List.setIfInBounds_toArray, List.set_cons_zero, List.set_cons_succ]
                refine wpAnyH_ready (rs := [15]) (by kernel_rfl) (by simp) ?_
                refine AllReadyH.cons (o := { dst := none, op := Op.store 27 (Operand.tmp 67) (Operand.tmp 65), type := 0, pos := "ref.go:113", after := #[{ on := 14, ground := Ground.data }, { on := 12, ground := Ground.data }, { on := 12, ground := Ground.chain }, { on := 0, ground := Ground.phase }, { on := 1, ground := Ground.phase }, { on := 2, ground := Ground.phase }, { on := 3, ground := Ground.phase }, { on := 4, ground := Ground.phase }, { on := 5, ground := Ground.phase }, { on := 6, ground := Ground.phase }, { on := 7, ground := Ground.phase }, { on := 8, ground := Ground.phase }, { on := 9, ground := Ground.phase }, { on := 10, ground := Ground.phase }, { on := 11, ground := Ground.phase }, { on := 12, ground := Ground.phase }], guard := none }) rfl (fun K hK => ?_) (AllReadyH.nil)
                go_simp
                refine hK.out _ _ ?_ (fun hHeld => ?_)
                · trivial
                clear hK K
                try simp only [Act.put, List.setIfInBounds_toArray, List.set_cons_zero, List.set_cons_succ]
                refine wpAnyH_done (by kernel_rfl) ?_ _
                refine NoPanic.normal ?_
                have hfin : Dsk N (k103.setCell ⟨g2, 0, none⟩ (.slice A12 m12 c12)) g2 g2 (.slice A12 m12 c12) (crash9 n (l.take (k + 1))) 0 := by
                  rw [HTAKE.out, HLEFT.out]
                  exact ⟨Nat.le_refl _, HAV.out, by rw [heap_setCell_same _ g2 0 _ _ _ HBX12.out]; rfl, HO12.out.far HBX12.out disk_ne_file disk_ne_u8⟩
                have HFIN := Lib.hid hfin
                have HBF := Lib.hid (hb.setCell (p := ⟨g2, 0, none⟩) (Nat.le_of_eq hg2) (.slice A12 m12 c12))
                clear hfin hb
                go_wp2
                refine ⟨⟨k + 1, by go_num, by omega, ⟨_, HFIN.out⟩, HBF.out⟩, by simp [intOf]; omega⟩
        · obtain rfl : kk = 0 := by omega
          rcases th with _ | _
          · go_wp2_with fail
            have hnone : left9 n l[k] = [] := by
              unfold left9
              rw [if_neg (by rw [hkk, hth]; simp)]
            refine ⟨⟨k + 1, by go_num, by omega, ⟨v2, by rw [HTAKE.out, hnone, List.append_nil]; exact HD5.out⟩, HB5.out⟩, by simp [intOf]; omega⟩
          · skip
            have hjq : fa ≤ q := by omega
            have hby : Byt W5 gb (.slice Ab fa cb) (l[k].b.take fa) := byt_to9 (c := cb) (by rw [hq]; exact HBY5.out) (by rw [hq]; omega)
            have htl : (l[k].b.take fa).length = fa := by rw [List.length_take, hq]; omega
            have HBY := Lib.hid hby
            clear hby
            have hjc : ((fa : Nat) : Int) ≤ (cb : Nat) := by have := byt_capq9 HBY5.out; omega
            go_wp2_with (at_builtin; refine wpList_append_byt rfl _ _ rfl W5.heap.size _ _ _ _ _ rfl (ownB_nil W5.heap.size _) rfl HBY.out ?x1 (Nat.le_refl _) ?_)
            case x1 => first | omega | (rw [htl]; simp; omega)
            intro v6 W6 ho6 hb6
            obtain ⟨A6, c6, hv6⟩ := own_slice ho6
            rw [htl] at hv6
            subst hv6
            have HO6 := Lib.hid (ownN_of ho6 (fun k hk => Nat.lt_of_lt_of_le (HNN.out k hk) HB5.out.size))
            have hg6 : gb < W6.heap.size := Nat.lt_of_lt_of_le hg5 hb6.size
            have HR6 := Lib.hid (rng_below9 HR5.out hb6 hg5)
            have HD6 := Lib.hid (HD5.out.below hb6)
            have HB6 := Lib.hid (HB5.out.trans (hb6.mono (by omega)))
            obtain ⟨A2, c2, hv2⟩ := HD6.out.own.slice
            obtain ⟨m2, hm2⟩ : ∃ m2, (crash9 n (l.take k)).length = m2 := ⟨_, rfl⟩
            have hm2l : (crash9 n (l.take k)).length ≤ 1000 := by have := crash9_lenq n (l.take k); rw [List.length_take] at this; omega
            rw [hm2] at hv2
            subst hv2
            have hc0 := HD6.out.cell0
            have hnb : W6.cell? ⟨gb, 0, none⟩ = some (.string nm) := HR6.out 0 _ rfl
            have hb := HB6.out
            have hlt2 : g2 < W6.heap.size := HD6.out.lt
            have hleft : left9 n l[k] = [⟨nm, l[k].b.take fa, fa, true⟩] := by
              unfold left9
              rw [hkk, hfa, hnm, if_pos (by first | exact .inl hth | exact .inr hk0)]
              try rfl
            have HLEFT := Lib.hid hleft
            clear ho6 hb6 HBY HR5 HD5 HB5 HB6 HR6 b1 b2 b3 hleft
            go_upto_region 11 with fail
            replace hc0 : W6.drew.cell? ⟨g2, 0, none⟩ = some (.slice A2 m2 c2) := hc0
            replace hnb : W6.drew.cell? ⟨gb, 0, none⟩ = some (.string nm) := hnb
            replace HD6 := Lib.hid ((HD6.out).below ((Below.refl W6.heap.size W6).drew))
            replace HO6 := Lib.hid ((HO6.out).below ((Below.refl W6.heap.size W6).drew))
            refine wp_region_noPanic ?_
            refine wp_region_held_drew (S := fun W => True) (by kernel_rfl) ?_ (fun hHeld => ?_)
            · trivial
            replace hb : Below w.heap.size w W6.drew := hb.drew
            replace hlt2 : g2 < W6.drew.heap.size := hlt2
            replace hg6 : gb < W6.drew.heap.size := hg6
            have hzd : W6.heap.size ≤ W6.drew.heap.size := Nat.le_refl _
            generalize W6.drew = k101 at *
            refine wpAnyH_take (i := 0) (oi := { dst := some 53, op := Op.move (Operand.tmp 5), type := 26, pos := "ref.go:113", after := #[], guard := none }) (v := .pointer (some ⟨g2, 0, none⟩)) rfl (by kernel_rfl) (by kernel_rfl) (by kernel_rfl) (fun _ _ _ h => h) (Or.inl ⟨by rfl, fun w hSw => ?_⟩) (by assumption) ?_
            · (try dsimp only at hSw)
              go_simp
            try simp only [Act.put, List.setIfInBounds_toArray, List.set_cons_zero, List.set_cons_succ]
            refine wpAnyH_take (i := 1) (oi := { dst := some 54, op := Op.move (Operand.tmp 5), type := 26, pos := "ref.go:113", after := #[], guard := none }) (v := .pointer (some ⟨g2, 0, none⟩)) rfl (by kernel_rfl) (by kernel_rfl) (by kernel_rfl) (fun _ _ _ h => h) (Or.inl ⟨by rfl, fun w hSw => ?_⟩) (by assumption) ?_
            · (try dsimp only at hSw)
              go_simp
            try simp only [Act.put, List.setIfInBounds_toArray, List.set_cons_zero, List.set_cons_succ]
            refine wpAnyH_take (i := 2) (oi := { dst := some 55, op := Op.nilCheck (Operand.tmp 54), type := 0, pos := "ref.go:113", after := #[{ on := 1, ground := Ground.data }], guard := none }) (v := .pointer (some ⟨g2, 0, none⟩)) rfl (by kernel_rfl) (by kernel_rfl) (by kernel_rfl) (fun _ _ _ h => h) (Or.inl ⟨by rfl, fun w hSw => ?_⟩) (by assumption) ?_
            · (try dsimp only at hSw)
              go_simp
            try simp only [Act.put, List.setIfInBounds_toArray, List.set_cons_zero, List.set_cons_succ]
            refine wpAnyH_take (i := 3) (oi := { dst := some 56, op := Op.fieldAddr 29 (Operand.tmp 55) 0, type := 0, pos := "ref.go:113", after := #[{ on := 2, ground := Ground.data }], guard := none }) (v := .pointer (some ⟨g2, 0, none⟩)) rfl (by kernel_rfl) (by kernel_rfl) (by kernel_rfl) (fun _ _ _ h => h) (Or.inl ⟨by rfl, fun w hSw => ?_⟩) (by assumption) ?_
            · (try dsimp only at hSw)
              go_simp
            try simp only [Act.put, List.setIfInBounds_toArray, List.set_cons_zero, List.set_cons_succ]
            refine wpAnyH_take (i := 5) (oi := { dst := some 58, op := Op.fieldAddr 64 (Operand.tmp 7) 0, type := 0, pos := "ref.go:113", after := #[], guard := none }) (v := .pointer (some ⟨gb, 0, none⟩)) rfl (by kernel_rfl) (by kernel_rfl) (by kernel_rfl) (fun _ _ _ h => h) (Or.inl ⟨by rfl, fun w hSw => ?_⟩) (by assumption) ?_
            · (try dsimp only at hSw)
              go_simp
            try simp only [Act.put, List.setIfInBounds_toArray, List.set_cons_zero, List.set_cons_succ]
            refine wpAnyH_take (i := 7) (oi := { dst := some 60, op := Op.move (Operand.tmp 9), type := 30, pos := "ref.go:113", after := #[], guard := none }) (v := .slice A6 fa c6) rfl (by kernel_rfl) (by kernel_rfl) (by kernel_rfl) (fun _ _ _ h => h) (Or.inl ⟨by rfl, fun w hSw => ?_⟩) (by assumption) ?_
            · (try dsimp only at hSw)
              go_simp
            try simp only [Act.put, List.setIfInBounds_toArray, List.set_cons_zero, List.set_cons_succ]
            refine wpAnyH_take (i := 8) (oi := { dst := some 61, op := Op.move (Operand.tmp 9), type := 30, pos := "ref.go:113", after := #[], guard := none }) (v := .slice A6 fa c6) rfl (by kernel_rfl) (by kernel_rfl) (by kernel_rfl) (fun _ _ _ h => h) (Or.inl ⟨by rfl, fun w hSw => ?_⟩) (by assumption) ?_
            · (try dsimp only at hSw)
              go_simp
            try simp only [Act.put, List.setIfInBounds_toArray, List.set_cons_zero, List.set_cons_succ]
            refine wpAnyH_take (i := 9) (oi := { dst := some 62, op := Op.call { callee := Callee.builtin Builtin.len, args := #[Operand.tmp 61], argTypes := #[30] }, type := 3, pos := "ref.go:113", after := #[{ on := 8, ground := Ground.data }], guard := none }) (v := .int .i64 ((fa : Nat) : Int)) rfl (by kernel_rfl) (by kernel_rfl) (by kernel_rfl) (fun _ _ _ h => h) (Or.inl ⟨by rfl, fun w hSw => ?_⟩) (by assumption) ?_
            · (try dsimp only at hSw)
              go_simp
            try simp only [Act.put, List.setIfInBounds_toArray, List.set_cons_zero, List.set_cons_succ]
            refine wpAnyH_ready (rs := [4, 6]) (by kernel_rfl) (by simp) ?_
            refine AllReadyH.cons (o := { dst := some 57, op := Op.load 27 (Operand.tmp 56), type := 27, pos := "ref.go:113", after := #[{ on := 3, ground := Ground.data }], guard := none }) rfl (fun K hK => ?_) (AllReadyH.cons (o := { dst := some 59, op := Op.load 9 (Operand.tmp 58), type := 9, pos := "ref.go:113", after := #[{ on := 5, ground := Ground.data }], guard := none }) rfl (fun K hK => ?_) (AllReadyH.nil))
            · go_simp
              refine hK.out _ _ ?_ (fun hHeld => ?_)
              · trivial
              clear hK K
              try simp only [Act.put, List.setIfInBounds_toArray, List.set_cons_zero, List.set_cons_succ]
              refine wpAnyH_ready (rs := [6]) (by kernel_rfl) (by simp) ?_
              refine AllReadyH.cons (o := { dst := some 59, op := Op.load 9 (Operand.tmp 58), type := 9, pos := "ref.go:113", after := #[{ on := 5, ground := Ground.data }], guard := none }) rfl (fun K hK => ?_) (AllReadyH.nil)
              go_simp
              refine hK.out _ _ ?_ (fun hHeld => ?_)
              · trivial
              clear hK K
              try simp only [Act.put, List.setIfInBounds_toArray, List.set_cons_zero, List.set_cons_succ]
              refine wpAnyH_take (i := 10) (oi := { dst := some 63, op := Op.build 64 #[(0, Operand.tmp 59), (1, Operand.tmp 60), (2, Operand.tmp 62), (3, Operand.const (Value.bool true))], type := 64, pos := "ref.go:113", after := #[{ on := 6, ground := Ground.data }, { on := 7, ground := Ground.data }, { on := 9, ground := Ground.data }], guard := none }) (v := .agg #[.string nm, .slice A6 fa c6, .int .i64 ((fa : Nat) : Int), .bool true]) rfl (by kernel_rfl) (by kernel_rfl) (by kernel_rfl) (fun _ _ _ h => h) (Or.inl ⟨by rfl, fun w hSw => ?_⟩) (by assumption) ?_
              · (try dsimp only at hSw)
                go_simp
              try simp only [Act.put, List.setIfInBounds_toArray, List.set_cons_zero, List.set_cons_succ]
              refine wpAnyH_ready (rs := [11]) (by kernel_rfl) (by simp) ?_
              refine AllReadyH.cons (o := { dst := some 64, op := Op.buildSlice 27 1 #[(0, Operand.tmp 63)], type := 27, pos := "ref.go:113", after := #[{ on := 10, ground := Ground.data }], guard := none }) rfl (fun K hK => ?_) (AllReadyH.nil)
              go_simp
              have hk : Below k101.heap.size k101 (k101.alloc (Obj.cells #[.string nm, .slice A6 fa c6, .int .i64 ((fa : Nat) : Int), .bool true] 64)) := below_new k101 _
              have hnw : (k101.alloc (Obj.cells #[.string nm, .slice A6 fa c6, .int .i64 ((fa : Nat) : Int), .bool true] 64)).rangeAt k101.heap.size 0 [.string nm, .slice A6 fa c6, .int .i64 ((fa : Nat) : Int), .bool true] := cells_new9 _ _ _
              obtain ⟨b1, hb1⟩ : ∃ b1, k101.heap.size = b1 := ⟨_, rfl⟩
              have hb1z : b1 < (k101.alloc (Obj.cells #[.string nm, .slice A6 fa c6, .int .i64 ((fa : Nat) : Int), .bool true] 64)).heap.size := by rw [← hb1]; simp
              generalize k101.alloc (Obj.cells #[.string nm, .slice A6 fa c6, .int .i64 ((fa : Nat) : Int), .bool true] 64) = k102 at *
              have HNW := Lib.hid hnw; clear hnw
              replace hc0 : k102.cell? ⟨g2, 0, none⟩ = some (.slice A2 m2 c2) := (hk.cell (p := ⟨g2, 0, none⟩) (by first | (simp; done) | (simp; omega) | omega)).trans hc0
              replace hnb : k102.cell? ⟨gb, 0, none⟩ = some (.string nm) := (hk.cell (p := ⟨gb, 0, none⟩) (by first | (simp; done) | (simp; omega) | omega)).trans hnb
              replace HD6 := Lib.hid ((HD6.out).below hk)
              replace HO6 := Lib.hid ((HO6.out).below hk)
              replace hb : Below w.heap.size w k102 := hb.trans (hk.mono hb.size)
              have hkz := hk.size
              have hlt2 : g2 < k102.heap.size := (by first | (simp; done) | (simp; omega) | omega)
              have hg6 : gb < k102.heap.size := (by first | (simp; done) | (simp; omega) | omega)
              rw [hb1] at HNW
              try rw [hb1]
              clear hk
              refine hK.out _ _ ?_ (fun hHeld => ?_)
              · trivial
              clear hK K
              try simp only [Act.put, List.setIfInBounds_toArray, List.set_cons_zero, List.set_cons_succ]
              refine wpAnyH_ready (rs := [12]) (by kernel_rfl) (by simp) ?_
              refine AllReadyH.cons (o := { dst := some 65, op := Op.call { callee := Callee.builtin Builtin.append, args := #[Operand.tmp 57, Operand.tmp 64], argTypes := #[27, 27] }, type := 27, pos := "ref.go:113", after := #[{ on := 4, ground := Ground.data }, { on := 11, ground := Ground.data }], guard := none }) rfl (fun K hK => ?_) (AllReadyH.nil)
              rw [if_pos (by rfl)]
              refine wp_append_fil _ _ rfl g2 g2 _ (.slice A6 fa c6) (crash9 n (l.take k)) 0 b1 (⟨nm, l[k].b.take fa, fa, true⟩ : Fil) HD6.out HO6.out rfl rfl HNW.out hm2l (by omega) (fun k hk => Nat.lt_of_lt_of_le (HNN.out k hk) hb.size) ?_
              intro v12 k103 ho12 hk hbox
              obtain ⟨A12, c12, hv12⟩ := ho12.slice
              obtain ⟨m12, hm12⟩ : ∃ m12, (crash9 n (l.take k) ++ [(⟨nm, l[k].b.take fa, fa, true⟩ : Fil)]).length = m12 := ⟨_, rfl⟩
              rw [hm12] at hv12
              subst hv12
              replace hc0 : k103.cell? ⟨g2, 0, none⟩ = some (.slice A2 m2 c2) := by rw [cell_of_row k103 g2 0 _ _ _ hbox]; rfl
              have hfz : k103.frozen? ⟨g2, 0, none⟩ = false := frozen_of_row k103 g2 0 _ _ hbox
              replace hb : Below w.heap.size w k103 := hb.trans (hk.mono (Nat.le_of_eq hg2))
              have HO12 := Lib.hid ho12
              have HBX12 := Lib.hid hbox
              clear HNW HO6 HD6 hnb ho12 hbox hk
              refine hK.out _ _ ?_ (fun hHeld => ?_)
              · trivial
              clear hK K
              try simp only [Act.put, List.setIfInBounds_toArray, List.set_cons_zero, List.set_cons_succ]
              refine wpAnyH_take (i := 13) (oi := { dst := some 66, op := Op.nilCheck (Operand.tmp 53), type := 0, pos := "ref.go:113", after := #[{ on := 0, ground := Ground.data }, { on := 0, ground := Ground.phase }, { on := 1, ground := Ground.phase }, { on := 2, ground := Ground.phase }, { on := 3, ground := Ground.phase }, { on := 4, ground := Ground.phase }, { on := 5, ground := Ground.phase }, { on := 6, ground := Ground.phase }, { on := 7, ground := Ground.phase }, { on := 8, ground := Ground.phase }, { on := 9, ground := Ground.phase }, { on := 10, ground := Ground.phase }, { on := 11, ground := Ground.phase }, { on := 12, ground := Ground.phase }], guard := none }) (v := .pointer (some ⟨g2, 0, none⟩)) rfl (by kernel_rfl) (by kernel_rfl) (by kernel_rfl) (fun _ _ _ h => h) (Or.inl ⟨by rfl, fun w hSw => ?_⟩) (by assumption) ?_
              · (try dsimp only at hSw)
                go_simp
              try simp only [Act.put, List.setIfInBounds_toArray, List.set_cons_zero, List.set_cons_succ]
              refine wpAnyH_take (i := 14) (oi := { dst := some 67, op := Op.fieldAddr 29 (Operand.tmp 66) 0, type := 0, pos := "ref.go:113", after := #[{ on := 13, ground := Ground.data }, { on := 0, ground := Ground.phase }, { on := 1, ground := Ground.phase }, { on := 2, ground := Ground.phase }, { on := 3, ground := Ground.phase }, { on := 4, ground := Ground.phase }, { on := 5, ground := Ground.phase }, { on := 6, ground := Ground.phase }, { on := 7, ground := Ground.phase }, { on := 8, ground := Ground.phase }, { on := 9, ground := Ground.phase }, { on := 10, ground := Ground.phase }, { on := 11, ground := Ground.phase }, { on := 12, ground := Ground.phase }], guard := none }) (v := .pointer (some ⟨g2, 0, none⟩)) rfl (by kernel_rfl) (by kernel_rfl) (by kernel_rfl) (fun _ _ _ h => h) (Or.inl ⟨by rfl, fun w hSw => ?_⟩) (by assumption) ?_
              · (try dsimp only at hSw)
                go_simp
              try simp only [Act.put, List.setIfInBounds_toArray, List.set_cons_zero, List.set_cons_succ]
              refine wpAnyH_ready (rs := [15]) (by kernel_rfl) (by simp) ?_
              refine AllReadyH.cons (o := { dst := none, op := Op.store 27 (Operand.tmp 67) (Operand.tmp 65), type := 0, pos := "ref.go:113", after := #[{ on := 14, ground := Ground.data }, { on := 12, ground := Ground.data }, { on := 12, ground := Ground.chain }, { on := 0, ground := Ground.phase }, { on := 1, ground := Ground.phase }, { on := 2, ground := Ground.phase }, { on := 3, ground := Ground.phase }, { on := 4, ground := Ground.phase }, { on := 5, ground := Ground.phase }, { on := 6, ground := Ground.phase }, { on := 7, ground := Ground.phase }, { on := 8, ground := Ground.phase }, { on := 9, ground := Ground.phase }, { on := 10, ground := Ground.phase }, { on := 11, ground := Ground.phase }, { on := 12, ground := Ground.phase }], guard := none }) rfl (fun K hK => ?_) (AllReadyH.nil)
              go_simp
              refine hK.out _ _ ?_ (fun hHeld => ?_)
              · trivial
              clear hK K
              try simp only [Act.put, List.setIfInBounds_toArray, List.set_cons_zero, List.set_cons_succ]
              refine wpAnyH_done (by kernel_rfl) ?_ _
              refine NoPanic.normal ?_
              have hfin : Dsk N (k103.setCell ⟨g2, 0, none⟩ (.slice A12 m12 c12)) g2 g2 (.slice A12 m12 c12) (crash9 n (l.take (k + 1))) 0 := by
                rw [HTAKE.out, HLEFT.out]
                exact ⟨Nat.le_refl _, HAV.out, by rw [heap_setCell_same _ g2 0 _ _ _ HBX12.out]; rfl, HO12.out.far HBX12.out disk_ne_file disk_ne_u8⟩
              have HFIN := Lib.hid hfin
              have HBF := Lib.hid (hb.setCell (p := ⟨g2, 0, none⟩) (Nat.le_of_eq hg2) (.slice A12 m12 c12))
              clear hfin hb
              go_wp2
              refine ⟨⟨k + 1, by go_num, by omega, ⟨_, HFIN.out⟩, HBF.out⟩, by simp [intOf]; omega⟩
            · go_simp
              refine hK.out _ _ ?_ (fun hHeld => ?_)
              · trivial
              clear hK K
              try simp only [Act.put, List.setIfInBounds_toArray, List.set_cons_zero, List.set_cons_succ]
              refine wpAnyH_take (i := 10) (oi := { dst := some 63, op := Op.build 64 #[(0, Operand.tmp 59), (1, Operand.tmp 60), (2, Operand.tmp 62), (3, Operand.const (Value.bool true))], type := 64, pos := "ref.go:113", after := #[{ on := 6, ground := Ground.data }, { on := 7, ground := Ground.data }, { on := 9, ground := Ground.data }], guard := none }) (v := .agg #[.string nm, .slice A6 fa c6, .int .i64 ((fa : Nat) : Int), .bool true]) rfl (by kernel_rfl) (by kernel_rfl) (by kernel_rfl) (fun _ _ _ h => h) (Or.inl ⟨by rfl, fun w hSw => ?_⟩) (by assumption) ?_
              · (try dsimp only at hSw)
                go_simp
              try simp only [Act.put, List.setIfInBounds_toArray, List.set_cons_zero, List.set_cons_succ]
              refine wpAnyH_ready (rs := [4, 11]) (by kernel_rfl) (by simp) ?_
              refine AllReadyH.cons (o := { dst := some 57, op := Op.load 27 (Operand.tmp 56), type := 27, pos := "ref.go:113", after := #[{ on := 3, ground := Ground.data }], guard := none }) rfl (fun K hK => ?_) (AllReadyH.cons (o := { dst := some 64, op := Op.buildSlice 27 1 #[(0, Operand.tmp 63)], type := 27, pos := "ref.go:113", after := #[{ on := 10, ground := Ground.data }], guard := none }) rfl (fun K hK => ?_) (AllReadyH.nil))
              · go_simp
                refine hK.out _ _ ?_ (fun hHeld => ?_)
                · trivial
                clear hK K
                try simp only [Act.put, List.setIfInBounds_toArray, List.set_cons_zero, List.set_cons_succ]
                refine wpAnyH_ready (rs := [11]) (by kernel_rfl) (by simp) ?_
                refine AllReadyH.cons (o := { dst := some 64, op := Op.buildSlice 27 1 #[(0, Operand.tmp 63)], type := 27, pos := "ref.go:113", after := #[{ on := 10, ground := Ground.data }], guard := none }) rfl (fun K hK => ?_) (AllReadyH.nil)
                go_simp
                have hk : Below k101.heap.size k101 (k101.alloc (Obj.cells #[.string nm, .slice A6 fa c6, .int .i64 ((fa : Nat) : Int), .bool true] 64)) := below_new k101 _
                have hnw : (k101.alloc (Obj.cells #[.string nm, .slice A6 fa c6, .int .i64 ((fa : Nat) : Int), .bool true] 64)).rangeAt k101.heap.size 0 [.string nm, .slice A6 fa c6, .int .i64 ((fa : Nat) : Int), .bool true] := cells_new9 _ _ _
                obtain ⟨b1, hb1⟩ : ∃ b1, k101.heap.size = b1 := ⟨_, rfl⟩
                have hb1z : b1 < (k101.alloc (Obj.cells #[.string nm, .slice A6 fa c6, .int .i64 ((fa : Nat) : Int), .bool true] 64)).heap.size := by rw [← hb1]; simp
                generalize k101.alloc (Obj.cells #[.string nm, .slice A6 fa c6, .int .i64 ((fa : Nat) : Int), .bool true] 64) = k102 at *
                have HNW := Lib.hid hnw; clear hnw
                replace hc0 : k102.cell? ⟨g2, 0, none⟩ = some (.slice A2 m2 c2) := (hk.cell (p := ⟨g2, 0, none⟩) (by first | (simp; done) | (simp; omega) | omega)).trans hc0
                replace hnb : k102.cell? ⟨gb, 0, none⟩ = some (.string nm) := (hk.cell (p := ⟨gb, 0, none⟩) (by first | (simp; done) | (simp; omega) | omega)).trans hnb
                replace HD6 := Lib.hid ((HD6.out).below hk)
                replace HO6 := Lib.hid ((HO6.out).below hk)
                replace hb : Below w.heap.size w k102 := hb.trans (hk.mono hb.size)
                have hkz := hk.size
                have hlt2 : g2 < k102.heap.size := (by first | (simp; done) | (simp; omega) | omega)
                have hg6 : gb < k102.heap.size := (by first | (simp; done) | (simp; omega) | omega)
                rw [hb1] at HNW
                try rw [hb1]
                clear hk
                refine hK.out _ _ ?_ (fun hHeld => ?_)
                · trivial
                clear hK K
                try simp only [Act.put, List.setIfInBounds_toArray, List.set_cons_zero, List.set_cons_succ]
                refine wpAnyH_ready (rs := [12]) (by kernel_rfl) (by simp) ?_
                refine AllReadyH.cons (o := { dst := some 65, op := Op.call { callee := Callee.builtin Builtin.append, args := #[Operand.tmp 57, Operand.tmp 64], argTypes := #[27, 27] }, type := 27, pos := "ref.go:113", after := #[{ on := 4, ground := Ground.data }, { on := 11, ground := Ground.data }], guard := none }) rfl (fun K hK => ?_) (AllReadyH.nil)
                rw [if_pos (by rfl)]
                refine wp_append_fil _ _ rfl g2 g2 _ (.slice A6 fa c6) (crash9 n (l.take k)) 0 b1 (⟨nm, l[k].b.take fa, fa, true⟩ : Fil) HD6.out HO6.out rfl rfl HNW.out hm2l (by omega) (fun k hk => Nat.lt_of_lt_of_le (HNN.out k hk) hb.size) ?_
                intro v12 k103 ho12 hk hbox
                obtain ⟨A12, c12, hv12⟩ := ho12.slice
                obtain ⟨m12, hm12⟩ : ∃ m12, (crash9 n (l.take k) ++ [(⟨nm, l[k].b.take fa, fa, true⟩ : Fil)]).length = m12 := ⟨_, rfl⟩
                rw [hm12] at hv12
                subst hv12
                replace hc0 : k103.cell? ⟨g2, 0, none⟩ = some (.slice A2 m2 c2) := by rw [cell_of_row k103 g2 0 _ _ _ hbox]; rfl
                have hfz : k103.frozen? ⟨g2, 0, none⟩ = false := frozen_of_row k103 g2 0 _ _ hbox
                replace hb : Below w.heap.size w k103 := hb.trans (hk.mono (Nat.le_of_eq hg2))
                have HO12 := Lib.hid ho12
                have HBX12 := Lib.hid hbox
                clear HNW HO6 HD6 hnb ho12 hbox hk
                refine hK.out _ _ ?_ (fun hHeld => ?_)
                · trivial
                clear hK K
                try simp only [Act.put, List.setIfInBounds_toArray, List.set_cons_zero, List.set_cons_succ]
                refine wpAnyH_take (i := 13) (oi := { dst := some 66, op := Op.nilCheck (Operand.tmp 53), type := 0, pos := "ref.go:113", after := #[{ on := 0, ground := Ground.data }, { on := 0, ground := Ground.phase }, { on := 1, ground := Ground.phase }, { on := 2, ground := Ground.phase }, { on := 3, ground := Ground.phase }, { on := 4, ground := Ground.phase }, { on := 5, ground := Ground.phase }, { on := 6, ground := Ground.phase }, { on := 7, ground := Ground.phase }, { on := 8, ground := Ground.phase }, { on := 9, ground := Ground.phase }, { on := 10, ground := Ground.phase }, { on := 11, ground := Ground.phase }, { on := 12, ground := Ground.phase }], guard := none }) (v := .pointer (some ⟨g2, 0, none⟩)) rfl (by kernel_rfl) (by kernel_rfl) (by kernel_rfl) (fun _ _ _ h => h) (Or.inl ⟨by rfl, fun w hSw => ?_⟩) (by assumption) ?_
                · (try dsimp only at hSw)
                  go_simp
                try simp only [Act.put, List.setIfInBounds_toArray, List.set_cons_zero, List.set_cons_succ]
                refine wpAnyH_take (i := 14) (oi := { dst := some 67, op := Op.fieldAddr 29 (Operand.tmp 66) 0, type := 0, pos := "ref.go:113", after := #[{ on := 13, ground := Ground.data }, { on := 0, ground := Ground.phase }, { on := 1, ground := Ground.phase }, { on := 2, ground := Ground.phase }, { on := 3, ground := Ground.phase }, { on := 4, ground := Ground.phase }, { on := 5, ground := Ground.phase }, { on := 6, ground := Ground.phase }, { on := 7, ground := Ground.phase }, { on := 8, ground := Ground.phase }, { on := 9, ground := Ground.phase }, { on := 10, ground := Ground.phase }, { on := 11, ground := Ground.phase }, { on := 12, ground := Ground.phase }], guard := none }) (v := .pointer (some ⟨g2, 0, none⟩)) rfl (by kernel_rfl) (by kernel_rfl) (by kernel_rfl) (fun _ _ _ h => h) (Or.inl ⟨by rfl, fun w hSw => ?_⟩) (by assumption) ?_
                · (try dsimp only at hSw)
                  go_simp
                try simp only [Act.put, List.setIfInBounds_toArray, List.set_cons_zero, List.set_cons_succ]
                refine wpAnyH_ready (rs := [15]) (by kernel_rfl) (by simp) ?_
                refine AllReadyH.cons (o := { dst := none, op := Op.store 27 (Operand.tmp 67) (Operand.tmp 65), type := 0, pos := "ref.go:113", after := #[{ on := 14, ground := Ground.data }, { on := 12, ground := Ground.data }, { on := 12, ground := Ground.chain }, { on := 0, ground := Ground.phase }, { on := 1, ground := Ground.phase }, { on := 2, ground := Ground.phase }, { on := 3, ground := Ground.phase }, { on := 4, ground := Ground.phase }, { on := 5, ground := Ground.phase }, { on := 6, ground := Ground.phase }, { on := 7, ground := Ground.phase }, { on := 8, ground := Ground.phase }, { on := 9, ground := Ground.phase }, { on := 10, ground := Ground.phase }, { on := 11, ground := Ground.phase }, { on := 12, ground := Ground.phase }], guard := none }) rfl (fun K hK => ?_) (AllReadyH.nil)
                go_simp
                refine hK.out _ _ ?_ (fun hHeld => ?_)
                · trivial
                clear hK K
                try simp only [Act.put, List.setIfInBounds_toArray, List.set_cons_zero, List.set_cons_succ]
                refine wpAnyH_done (by kernel_rfl) ?_ _
                refine NoPanic.normal ?_
                have hfin : Dsk N (k103.setCell ⟨g2, 0, none⟩ (.slice A12 m12 c12)) g2 g2 (.slice A12 m12 c12) (crash9 n (l.take (k + 1))) 0 := by
                  rw [HTAKE.out, HLEFT.out]
                  exact ⟨Nat.le_refl _, HAV.out, by rw [heap_setCell_same _ g2 0 _ _ _ HBX12.out]; rfl, HO12.out.far HBX12.out disk_ne_file disk_ne_u8⟩
                have HFIN := Lib.hid hfin
                have HBF := Lib.hid (hb.setCell (p := ⟨g2, 0, none⟩) (Nat.le_of_eq hg2) (.slice A12 m12 c12))
                clear hfin hb
                go_wp2
                refine ⟨⟨k + 1, by go_num, by omega, ⟨_, HFIN.out⟩, HBF.out⟩, by simp [intOf]; omega⟩
              · go_simp
                have hk : Below k101.heap.size k101 (k101.alloc (Obj.cells #[.string nm, .slice A6 fa c6, .int .i64 ((fa : Nat) : Int), .bool true] 64)) := below_new k101 _
                have hnw : (k101.alloc (Obj.cells #[.string nm, .slice A6 fa c6, .int .i64 ((fa : Nat) : Int), .bool true] 64)).rangeAt k101.heap.size 0 [.string nm, .slice A6 fa c6, .int .i64 ((fa : Nat) : Int), .bool true] := cells_new9 _ _ _
                obtain ⟨b1, hb1⟩ : ∃ b1, k101.heap.size = b1 := ⟨_, rfl⟩
                have hb1z : b1 < (k101.alloc (Obj.cells #[.string nm, .slice A6 fa c6, .int .i64 ((fa : Nat) : Int), .bool true] 64)).heap.size := by rw [← hb1]; simp
                generalize k101.alloc (Obj.cells #[.string nm, .slice A6 fa c6, .int .i64 ((fa : Nat) : Int), .bool true] 64) = k102 at *
                have HNW := Lib.hid hnw; clear hnw
                replace hc0 : k102.cell? ⟨g2, 0, none⟩ = some (.slice A2 m2 c2) := (hk.cell (p := ⟨g2, 0, none⟩) (by first | (simp; done) | (simp; omega) | omega)).trans hc0
                replace hnb : k102.cell? ⟨gb, 0, none⟩ = some (.string nm) := (hk.cell (p := ⟨gb, 0, none⟩) (by first | (simp; done) | (simp; omega) | omega)).trans hnb
                replace HD6 := Lib.hid ((HD6.out).below hk)
                replace HO6 := Lib.hid ((HO6.out).below hk)
                replace hb : Below w.heap.size w k102 := hb.trans (hk.mono hb.size)
                have hkz := hk.size
                have hlt2 : g2 < k102.heap.size := (by first | (simp; done) | (simp; omega) | omega)
                have hg6 : gb < k102.heap.size := (by first | (simp; done) | (simp; omega) | omega)
                rw [hb1] at HNW
                try rw [hb1]
                clear hk
                refine hK.out _ _ ?_ (fun hHeld => ?_)
                · trivial
                clear hK K
                try simp only [Act.put, List.setIfInBounds_toArray, List.set_cons_zero, List.set_cons_succ]
                refine wpAnyH_ready (rs := [4]) (by kernel_rfl) (by simp) ?_
                refine AllReadyH.cons (o := { dst := some 57, op := Op.load 27 (Operand.tmp 56), type := 27, pos := "ref.go:113", after := #[{ on := 3, ground := Ground.data }], guard := none }) rfl (fun K hK => ?_) (AllReadyH.nil)
                go_simp
                refine hK.out _ _ ?_ (fun hHeld => ?_)
                · trivial
                clear hK K
                try simp only [Act.put, List.setIfInBounds_toArray, List.set_cons_zero, List.set_cons_succ]
                refine wpAnyH_ready (rs := [12]) (by kernel_rfl) (by simp) ?_
                refine AllReadyH.cons (o := { dst := some 65, op := Op.call { callee := Callee.builtin Builtin.append, args := #[Operand.tmp 57, Operand.tmp 64], argTypes := #[27, 27] }, type := 27, pos := "ref.go:113", after := #[{ on := 4, ground := Ground.data }, { on := 11, ground := Ground.data }], guard := none }) rfl (fun K hK => ?_) (AllReadyH.nil)
                rw [if_pos (by rfl)]
                refine wp_append_fil _ _ rfl g2 g2 _ (.slice A6 fa c6) (crash9 n (l.take k)) 0 b1 (⟨nm, l[k].b.take fa, fa, true⟩ : Fil) HD6.out HO6.out rfl rfl HNW.out hm2l (by omega) (fun k hk => Nat.lt_of_lt_of_le (HNN.out k hk) hb.size) ?_
                intro v12 k103 ho12 hk hbox
                obtain ⟨A12, c12, hv12⟩ := ho12.slice
                obtain ⟨m12, hm12⟩ : ∃ m12, (crash9 n (l.take k) ++ [(⟨nm, l[k].b.take fa, fa, true⟩ : Fil)]).length = m12 := ⟨_, rfl⟩
                rw [hm12] at hv12
                subst hv12
                replace hc0 : k103.cell? ⟨g2, 0, none⟩ = some (.slice A2 m2 c2) := by rw [cell_of_row k103 g2 0 _ _ _ hbox]; rfl
                have hfz : k103.frozen? ⟨g2, 0, none⟩ = false := frozen_of_row k103 g2 0 _ _ hbox
                replace hb : Below w.heap.size w k103 := hb.trans (hk.mono (Nat.le_of_eq hg2))
                have HO12 := Lib.hid ho12
                have HBX12 := Lib.hid hbox
                clear HNW HO6 HD6 hnb ho12 hbox hk
                refine hK.out _ _ ?_ (fun hHeld => ?_)
                · trivial
                clear hK K
                try simp only [Act.put, List.setIfInBounds_toArray, List.set_cons_zero, List.set_cons_succ]
                refine wpAnyH_take (i := 13) (oi := { dst := some 66, op := Op.nilCheck (Operand.tmp 53), type := 0, pos := "ref.go:113", after := #[{ on := 0, ground := Ground.data }, { on := 0, ground := Ground.phase }, { on := 1, ground := Ground.phase }, { on := 2, ground := Ground.phase }, { on := 3, ground := Ground.phase }, { on := 4, ground := Ground.phase }, { on := 5, ground := Ground.phase }, { on := 6, ground := Ground.phase }, { on := 7, ground := Ground.phase }, { on := 8, ground := Ground.phase }, { on := 9, ground := Ground.phase }, { on := 10, ground := Ground.phase }, { on := 11, ground := Ground.phase }, { on := 12, ground := Ground.phase }], guard := none }) (v := .pointer (some ⟨g2, 0, none⟩)) rfl (by kernel_rfl) (by kernel_rfl) (by kernel_rfl) (fun _ _ _ h => h) (Or.inl ⟨by rfl, fun w hSw => ?_⟩) (by assumption) ?_
                · (try dsimp only at hSw)
                  go_simp
                try simp only [Act.put, List.setIfInBounds_toArray, List.set_cons_zero, List.set_cons_succ]
                refine wpAnyH_take (i := 14) (oi := { dst := some 67, op := Op.fieldAddr 29 (Operand.tmp 66) 0, type := 0, pos := "ref.go:113", after := #[{ on := 13, ground := Ground.data }, { on := 0, ground := Ground.phase }, { on := 1, ground := Ground.phase }, { on := 2, ground := Ground.phase }, { on := 3, ground := Ground.phase }, { on := 4, ground := Ground.phase }, { on := 5, ground := Ground.phase }, { on := 6, ground := Ground.phase }, { on := 7, ground := Ground.phase }, { on := 8, ground := Ground.phase }, { on := 9, ground := Ground.phase }, { on := 10, ground := Ground.phase }, { on := 11, ground := Ground.phase }, { on := 12, ground := Ground.phase }], guard := none }) (v := .pointer (some ⟨g2, 0, none⟩)) rfl (by kernel_rfl) (by kernel_rfl) (by kernel_rfl) (fun _ _ _ h => h) (Or.inl ⟨by rfl, fun w hSw => ?_⟩) (by assumption) ?_
                · (try dsimp only at hSw)
                  go_simp
                try simp only [Act.put, List.setIfInBounds_toArray, List.set_cons_zero, List.set_cons_succ]
                refine wpAnyH_ready (rs := [15]) (by kernel_rfl) (by simp) ?_
                refine AllReadyH.cons (o := { dst := none, op := Op.store 27 (Operand.tmp 67) (Operand.tmp 65), type := 0, pos := "ref.go:113", after := #[{ on := 14, ground := Ground.data }, { on := 12, ground := Ground.data }, { on := 12, ground := Ground.chain }, { on := 0, ground := Ground.phase }, { on := 1, ground := Ground.phase }, { on := 2, ground := Ground.phase }, { on := 3, ground := Ground.phase }, { on := 4, ground := Ground.phase }, { on := 5, ground := Ground.phase }, { on := 6, ground := Ground.phase }, { on := 7, ground := Ground.phase }, { on := 8, ground := Ground.phase }, { on := 9, ground := Ground.phase }, { on := 10, ground := Ground.phase }, { on := 11, ground := Ground.phase }, { on := 12, ground := Ground.phase }], guard := none }) rfl (fun K hK => ?_) (AllReadyH.nil)
                go_simp
                refine hK.out _ _ ?_ (fun hHeld => ?_)
                · trivial
                clear hK K
                try simp only [Act.put, List.setIfInBounds_toArray, List.set_cons_zero, List.set_cons_succ]
                refine wpAnyH_done (by kernel_rfl) ?_ _
                refine NoPanic.normal ?_
                have hfin : Dsk N (k103.setCell ⟨g2, 0, none⟩ (.slice A12 m12 c12)) g2 g2 (.slice A12 m12 c12) (crash9 n (l.take (k + 1))) 0 := by
                  rw [HTAKE.out, HLEFT.out]
                  exact ⟨Nat.le_refl _, HAV.out, by rw [heap_setCell_same _ g2 0 _ _ _ HBX12.out]; rfl, HO12.out.far HBX12.out disk_ne_file disk_ne_u8⟩
                have HFIN := Lib.hid hfin
                have HBF := Lib.hid (hb.setCell (p := ⟨g2, 0, none⟩) (Nat.le_of_eq hg2) (.slice A12 m12 c12))
                clear hfin hb
                go_wp2
                refine ⟨⟨k + 1, by go_num, by omega, ⟨_, HFIN.out⟩, HBF.out⟩, by simp [intOf]; omega⟩
      · obtain rfl : kk = 0 := by rw [← hkk]; exact kOf9_neg hn0
        have hni : n ≤ 0 := by omega
        rcases th with _ | _
        · go_wp2_with fail
          have hnone : left9 n l[k] = [] := by
            unfold left9
            rw [if_neg (by rw [hkk, hth]; simp)]
          refine ⟨⟨k + 1, by go_num, by omega, ⟨v2, by rw [HTAKE.out, hnone, List.append_nil]; exact HD5.out⟩, HB5.out⟩, by simp [intOf]; omega⟩
        · skip
          have hjq : fa ≤ q := by omega
          have hby : Byt W5 gb (.slice Ab fa cb) (l[k].b.take fa) := byt_to9 (c := cb) (by rw [hq]; exact HBY5.out) (by rw [hq]; omega)
          have htl : (l[k].b.take fa).length = fa := by rw [List.length_take, hq]; omega
          have HBY := Lib.hid hby
          clear hby
          have hjc : ((fa : Nat) : Int) ≤ (cb : Nat) := by have := byt_capq9 HBY5.out; omega
          go_wp2_with (at_builtin; refine wpList_append_byt rfl _ _ rfl W5.heap.size _ _ _ _ _ rfl (ownB_nil W5.heap.size _) rfl HBY.out ?x1 (Nat.le_refl _) ?_)
          case x1 => first | omega | (rw [htl]; simp; omega)
          intro v6 W6 ho6 hb6
          obtain ⟨A6, c6, hv6⟩ := own_slice ho6
          rw [htl] at hv6
          subst hv6
          have HO6 := Lib.hid (ownN_of ho6 (fun k hk => Nat.lt_of_lt_of_le (HNN.out k hk) HB5.out.size))
          have hg6 : gb < W6.heap.size := Nat.lt_of_lt_of_le hg5 hb6.size
          have HR6 := Lib.hid (rng_below9 HR5.out hb6 hg5)
          have HD6 := Lib.hid (HD5.out.below hb6)
          have HB6 := Lib.hid (HB5.out.trans (hb6.mono (by omega)))
          obtain ⟨A2, c2, hv2⟩ := HD6.out.own.slice
          obtain ⟨m2, hm2⟩ : ∃ m2, (crash9 n (l.take k)).length = m2 := ⟨_, rfl⟩
          have hm2l : (crash9 n (l.take k)).length ≤ 1000 := by have := crash9_lenq n (l.take k); rw [List.length_take] at this; omega
          rw [hm2] at hv2
          subst hv2
          have hc0 := HD6.out.cell0
          have hnb : W6.cell? ⟨gb, 0, none⟩ = some (.string nm) := HR6.out 0 _ rfl
          have hb := HB6.out
          have hlt2 : g2 < W6.heap.size := HD6.out.lt
          have hleft : left9 n l[k] = [⟨nm, l[k].b.take fa, fa, true⟩] := by
            unfold left9
            rw [hkk, hfa, hnm, if_pos (by first | exact .inl hth | exact .inr hk0)]
            try rfl
          have HLEFT := Lib.hid hleft
          clear ho6 hb6 HBY HR5 HD5 HB5 HB6 HR6 b1 b2 b3 hleft
          go_upto_region 11 with fail
          replace hc0 : W6.drew.cell? ⟨g2, 0, none⟩ = some (.slice A2 m2 c2) := hc0
          replace hnb : W6.drew.cell? ⟨gb, 0, none⟩ = some (.string nm) := hnb
          replace HD6 := Lib.hid ((HD6.out).below ((Below.refl W6.heap.size W6).drew))
          replace HO6 := Lib.hid ((HO6.out).below ((Below.refl W6.heap.size W6).drew))
          refine wp_region_noPanic ?_
          refine wp_region_held_drew (S := fun W => True) (by kernel_rfl) ?_ (fun hHeld => ?_)
          · trivial
          replace hb : Below w.heap.size w W6.drew := hb.drew
          replace hlt2 : g2 < W6.drew.heap.size := hlt2
          replace hg6 : gb < W6.drew.heap.size := hg6
          have hzd : W6.heap.size ≤ W6.drew.heap.size := Nat.le_refl _
          generalize W6.drew = k101 at *
          refine wpAnyH_take (i := 0) (oi := { dst := some 53, op := Op.move (Operand.tmp 5), type := 26, pos := "ref.go:113", after := #[], guard := none }) (v := .pointer (some ⟨g2, 0, none⟩)) rfl (by kernel_rfl) (by kernel_rfl) (by kernel_rfl) (fun _ _ _ h => h) (Or.inl ⟨by rfl, fun w hSw => ?_⟩) (by assumption) ?_
          · (try dsimp only at hSw)
            go_simp
          try simp only [Act.put, List.setIfInBounds_toArray, List.set_cons_zero, List.set_cons_succ]
          refine wpAnyH_take (i := 1) (oi := { dst := some 54, op := Op.move (Operand.tmp 5), type := 26, pos := "ref.go:113", after := #[], guard := none }) (v := .pointer (some ⟨g2, 0, none⟩)) rfl (by kernel_rfl) (by kernel_rfl) (by kernel_rfl) (fun _ _ _ h => h) (Or.inl ⟨by rfl, fun w hSw => ?_⟩) (by assumption) ?_
          · (try dsimp only at hSw)
            go_simp
          try simp only [Act.put, List.setIfInBounds_toArray, List.set_cons_zero, List.set_cons_succ]
          refine wpAnyH_take (i := 2) (oi := { dst := some 55, op := Op.nilCheck (Operand.tmp 54), type := 0, pos := "ref.go:113", after := #[{ on := 1, ground := Ground.data }], guard := none }) (v := .pointer (some ⟨g2, 0, none⟩)) rfl (by kernel_rfl) (by kernel_rfl) (by kernel_rfl) (fun _ _ _ h => h) (Or.inl ⟨by rfl, fun w hSw => ?_⟩) (by assumption) ?_
          · (try dsimp only at hSw)
            go_simp
          try simp only [Act.put, List.setIfInBounds_toArray, List.set_cons_zero, List.set_cons_succ]
          refine wpAnyH_take (i := 3) (oi := { dst := some 56, op := Op.fieldAddr 29 (Operand.tmp 55) 0, type := 0, pos := "ref.go:113", after := #[{ on := 2, ground := Ground.data }], guard := none }) (v := .pointer (some ⟨g2, 0, none⟩)) rfl (by kernel_rfl) (by kernel_rfl) (by kernel_rfl) (fun _ _ _ h => h) (Or.inl ⟨by rfl, fun w hSw => ?_⟩) (by assumption) ?_
          · (try dsimp only at hSw)
            go_simp
          try simp only [Act.put, List.setIfInBounds_toArray, List.set_cons_zero, List.set_cons_succ]
          refine wpAnyH_take (i := 5) (oi := { dst := some 58, op := Op.fieldAddr 64 (Operand.tmp 7) 0, type := 0, pos := "ref.go:113", after := #[], guard := none }) (v := .pointer (some ⟨gb, 0, none⟩)) rfl (by kernel_rfl) (by kernel_rfl) (by kernel_rfl) (fun _ _ _ h => h) (Or.inl ⟨by rfl, fun w hSw => ?_⟩) (by assumption) ?_
          · (try dsimp only at hSw)
            go_simp
          try simp only [Act.put, List.setIfInBounds_toArray, List.set_cons_zero, List.set_cons_succ]
          refine wpAnyH_take (i := 7) (oi := { dst := some 60, op := Op.move (Operand.tmp 9), type := 30, pos := "ref.go:113", after := #[], guard := none }) (v := .slice A6 fa c6) rfl (by kernel_rfl) (by kernel_rfl) (by kernel_rfl) (fun _ _ _ h => h) (Or.inl ⟨by rfl, fun w hSw => ?_⟩) (by assumption) ?_
          · (try dsimp only at hSw)
            go_simp
          try simp only [Act.put, List.setIfInBounds_toArray, List.set_cons_zero, List.set_cons_succ]
          refine wpAnyH_take (i := 8) (oi := { dst := some 61, op := Op.move (Operand.tmp 9), type := 30, pos := "ref.go:113", after := #[], guard := none }) (v := .slice A6 fa c6) rfl (by kernel_rfl) (by kernel_rfl) (by kernel_rfl) (fun _ _ _ h => h) (Or.inl ⟨by rfl, fun w hSw => ?_⟩) (by assumption) ?_
          · (try dsimp only at hSw)
            go_simp
          try simp only [Act.put, List.setIfInBounds_toArray, List.set_cons_zero, List.set_cons_succ]
          refine wpAnyH_take (i := 9) (oi := { dst := some 62, op := Op.call { callee := Callee.builtin Builtin.len, args := #[Operand.tmp 61], argTypes := #[30] }, type := 3, pos := "ref.go:113", after := #[{ on := 8, ground := Ground.data }], guard := none }) (v := .int .i64 ((fa : Nat) : Int)) rfl (by kernel_rfl) (by kernel_rfl) (by kernel_rfl) (fun _ _ _ h => h) (Or.inl ⟨by rfl, fun w hSw => ?_⟩) (by assumption) ?_
          · (try dsimp only at hSw)
            go_simp
          try simp only [Act.put, List.setIfInBounds_toArray, List.set_cons_zero, List.set_cons_succ]
          refine wpAnyH_ready (rs := [4, 6]) (by kernel_rfl) (by simp) ?_
          refine AllReadyH.cons (o := { dst := some 57, op := Op.load 27 (Operand.tmp 56), type := 27, pos := "ref.go:113", after := #[{ on := 3, ground := Ground.data }], guard := none }) rfl (fun K hK => ?_) (AllReadyH.cons (o := { dst := some 59, op := Op.load 9 (Operand.tmp 58), type := 9, pos := "ref.go:113", after := #[{ on := 5, ground := Ground.data }], guard := none }) rfl (fun K hK => ?_) (AllReadyH.nil))
          · go_simp
            refine hK.out _ _ ?_ (fun hHeld => ?_)
            · trivial
            clear hK K
            try simp only [Act.put, List.setIfInBounds_toArray, List.set_cons_zero, List.set_cons_succ]
            refine wpAnyH_ready (rs := [6]) (by kernel_rfl) (by simp) ?_
            refine AllReadyH.cons (o := { dst := some 59, op := Op.load 9 (Operand.tmp 58), type := 9, pos := "ref.go:113", after := #[{ on := 5, ground := Ground.data }], guard := none }) rfl (fun K hK => ?_) (AllReadyH.nil)
            go_simp
            refine hK.out _ _ ?_ (fun hHeld => ?_)
            · trivial
            clear hK K
            try simp only [Act.put, List.setIfInBounds_toArray, List.set_cons_zero, List.set_cons_succ]
            refine wpAnyH_take (i := 10) (oi := { dst := some 63, op := Op.build 64 #[(0, Operand.tmp 59), (1, Operand.tmp 60), (2, Operand.tmp 62), (3, Operand.const (Value.bool true))], type := 64, pos := "ref.go:113", after := #[{ on := 6, ground := Ground.data }, { on := 7, ground := Ground.data }, { on := 9, ground := Ground.data }], guard := none }) (v := .agg #[.string nm, .slice A6 fa c6, .int .i64 ((fa : Nat) : Int), .bool true]) rfl (by kernel_rfl) (by kernel_rfl) (by kernel_rfl) (fun _ _ _ h => h) (Or.inl ⟨by rfl, fun w hSw => ?_⟩) (by assumption) ?_
            · (try dsimp only at hSw)
              go_simp
            try simp only [Act.put, List.setIfInBounds_toArray, List.set_cons_zero, List.set_cons_succ]
            refine wpAnyH_ready (rs := [11]) (by kernel_rfl) (by simp) ?_
            refine AllReadyH.cons (o := { dst := some 64, op := Op.buildSlice 27 1 #[(0, Operand.tmp 63)], type := 27, pos := "ref.go:113", after := #[{ on := 10, ground := Ground.data }], guard := none }) rfl (fun K hK => ?_) (AllReadyH.nil)
            go_simp
            have hk : Below k101.heap.size k101 (k101.alloc (Obj.cells #[.string nm, .slice A6 fa c6, .int .i64 ((fa : Nat) : Int), .bool true] 64)) := below_new k101 _
            have hnw : (k101.alloc (Obj.cells #[.string nm, .slice A6 fa c6, .int .i64 ((fa : Nat) : Int), .bool true] 64)).rangeAt k101.heap.size 0 [.string nm, .slice A6 fa c6, .int .i64 ((fa : Nat) : Int), .bool true] := cells_new9 _ _ _
            obtain ⟨b1, hb1⟩ : ∃ b1, k101.heap.size = b1 := ⟨_, rfl⟩
            have hb1z : b1 < (k101.alloc (Obj.cells #[.string nm, .slice A6 fa c6, .int .i64 ((fa : Nat) : Int), .bool true] 64)).heap.size := by rw [← hb1]; simp
            generalize k101.alloc (Obj.cells #[.string nm, .slice A6 fa c6, .int .i64 ((fa : Nat) : Int), .bool true] 64) = k102 at *
            have HNW := Lib.hid hnw; clear hnw
            replace hc0 : k102.cell? ⟨g2, 0, none⟩ = some (.slice A2 m2 c2) := (hk.cell (p := ⟨g2, 0, none⟩) (by first | (simp; done) | (simp; omega) | omega)).trans hc0
            replace hnb : k102.cell? ⟨gb, 0, none⟩ = some (.string nm) := (hk.cell (p := ⟨gb, 0, none⟩) (by first | (simp; done) | (simp; omega) | omega)).trans hnb
            replace HD6 := Lib.hid ((HD6.out).below hk)
            replace HO6 := Lib.hid ((HO6.out).below hk)
            replace hb : Below w.heap.size w k102 := hb.trans (hk.mono hb.size)
            have hkz := hk.size
            have hlt2 : g2 < k102.heap.size := (by first | (simp; done) | (simp; omega) | omega)
            have hg6 : gb < k102.heap.size := (by first | (simp; done) | (simp; omega) | omega)
            rw [hb1] at HNW
            try rw [hb1]
            clear hk
            refine hK.out _ _ ?_ (fun hHeld => ?_)
            · trivial
            clear hK K
            try simp only [Act.put, List.setIfInBounds_toArray, List.set_cons_zero, List.set_cons_succ]
            refine wpAnyH_ready (rs := [12]) (by kernel_rfl) (by simp) ?_
            refine AllReadyH.cons (o := { dst := some 65, op := Op.call { callee := Callee.builtin Builtin.append, args := #[Operand.tmp 57, Operand.tmp 64], argTypes := #[27, 27] }, type := 27, pos := "ref.go:113", after := #[{ on := 4, ground := Ground.data }, { on := 11, ground := Ground.data }], guard := none }) rfl (fun K hK => ?_) (AllReadyH.nil)
            rw [if_pos (by rfl)]
            refine wp_append_fil _ _ rfl g2 g2 _ (.slice A6 fa c6) (crash9 n (l.take k)) 0 b1 (⟨nm, l[k].b.take fa, fa, true⟩ : Fil) HD6.out HO6.out rfl rfl HNW.out hm2l (by omega) (fun k hk => Nat.lt_of_lt_of_le (HNN.out k hk) hb.size) ?_
            intro v12 k103 ho12 hk hbox
            obtain ⟨A12, c12, hv12⟩ := ho12.slice
            obtain ⟨m12, hm12⟩ : ∃ m12, (crash9 n (l.take k) ++ [(⟨nm, l[k].b.take fa, fa, true⟩ : Fil)]).length = m12 := ⟨_, rfl⟩
            rw [hm12] at hv12
            subst hv12
            replace hc0 : k103.cell? ⟨g2, 0, none⟩ = some (.slice A2 m2 c2) := by rw [cell_of_row k103 g2 0 _ _ _ hbox]; rfl
            have hfz : k103.frozen? ⟨g2, 0, none⟩ = false := frozen_of_row k103 g2 0 _ _ hbox
            replace hb : Below w.heap.size w k103 := hb.trans (hk.mono (Nat.le_of_eq hg2))
            have HO12 := Lib.hid ho12
            have HBX12 := Lib.hid hbox
            clear HNW HO6 HD6 hnb ho12 hbox hk
            refine hK.out _ _ ?_ (fun hHeld => ?_)
            · trivial
            clear hK K
            try simp only [Act.put, List.setIfInBounds_toArray, List.set_cons_zero, List.set_cons_succ]
            refine wpAnyH_take (i := 13) (oi := { dst := some 66, op := Op.nilCheck (Operand.tmp 53), type := 0, pos := "ref.go:113", after := #[{ on := 0, ground := Ground.data }, { on := 0, ground := Ground.phase }, { on := 1, ground := Ground.phase }, { on := 2, ground := Ground.phase }, { on := 3, ground := Ground.phase }, { on := 4, ground := Ground.phase }, { on := 5, ground := Ground.phase }, { on := 6, ground := Ground.phase }, { on := 7, ground := Ground.phase }, { on := 8, ground := Ground.phase }, { on := 9, ground := Ground.phase }, { on := 10, ground := Ground.phase }, { on := 11, ground := Ground.phase }, { on := 12, ground := Ground.phase }], guard := none }) (v := .pointer (some ⟨g2, 0, none⟩)) rfl (by kernel_rfl) (by kernel_rfl) (by kernel_rfl) (fun _ _ _ h => h) (Or.inl ⟨by rfl, fun w hSw => ?_⟩) (by assumption) ?_
            · (try dsimp only at hSw)
              go_simp
            try simp only [Act.put, List.setIfInBounds_toArray, List.set_cons_zero, List.set_cons_succ]
            refine wpAnyH_take (i := 14) (oi := { dst := some 67, op := Op.fieldAddr 29 (Operand.tmp 66) 0, type := 0, pos := "ref.go:113", after := #[{ on := 13, ground := Ground.data }, { on := 0, ground := Ground.phase }, { on := 1, ground := Ground.phase }, { on := 2, ground := Ground.phase }, { on := 3, ground := Ground.phase }, { on := 4, ground := Ground.phase }, { on := 5, ground := Ground.phase }, { on := 6, ground := Ground.phase }, { on := 7, ground := Ground.phase }, { on := 8, ground := Ground.phase }, { on := 9, ground := Ground.phase }, { on := 10, ground := Ground.phase }, { on := 11, ground := Ground.phase }, { on := 12, ground := Ground.phase }], guard := none }) (v := .pointer (some ⟨g2, 0, none⟩)) rfl (by kernel_rfl) (by kernel_rfl) (by kernel_rfl) (fun _ _ _ h => h) (Or.inl ⟨by rfl, fun w hSw => ?_⟩) (by assumption) ?_
            · (try dsimp only at hSw)
              go_simp
            try simp only [Act.put, List.setIfInBounds_toArray, List.set_cons_zero, List.set_cons_succ]
            refine wpAnyH_ready (rs := [15]) (by kernel_rfl) (by simp) ?_
            refine AllReadyH.cons (o := { dst := none, op := Op.store 27 (Operand.tmp 67) (Operand.tmp 65), type := 0, pos := "ref.go:113", after := #[{ on := 14, ground := Ground.data }, { on := 12, ground := Ground.data }, { on := 12, ground := Ground.chain }, { on := 0, ground := Ground.phase }, { on := 1, ground := Ground.phase }, { on := 2, ground := Ground.phase }, { on := 3, ground := Ground.phase }, { on := 4, ground := Ground.phase }, { on := 5, ground := Ground.phase }, { on := 6, ground := Ground.phase }, { on := 7, ground := Ground.phase }, { on := 8, ground := Ground.phase }, { on := 9, ground := Ground.phase }, { on := 10, ground := Ground.phase }, { on := 11, ground := Ground.phase }, { on := 12, ground := Ground.phase }], guard := none }) rfl (fun K hK => ?_) (AllReadyH.nil)
            go_simp
            refine hK.out _ _ ?_ (fun hHeld => ?_)
            · trivial
            clear hK K
            try simp only [Act.put, List.setIfInBounds_toArray, List.set_cons_zero, List.set_cons_succ]
            refine wpAnyH_done (by kernel_rfl) ?_ _
            refine NoPanic.normal ?_
            have hfin : Dsk N (k103.setCell ⟨g2, 0, none⟩ (.slice A12 m12 c12)) g2 g2 (.slice A12 m12 c12) (crash9 n (l.take (k + 1))) 0 := by
              rw [HTAKE.out, HLEFT.out]
              exact ⟨Nat.le_refl _, HAV.out, by rw [heap_setCell_same _ g2 0 _ _ _ HBX12.out]; rfl, HO12.out.far HBX12.out disk_ne_file disk_ne_u8⟩
            have HFIN := Lib.hid hfin
            have HBF := Lib.hid (hb.setCell (p := ⟨g2, 0, none⟩) (Nat.le_of_eq hg2) (.slice A12 m12 c12))
            clear hfin hb
            go_wp2
            refine ⟨⟨k + 1, by go_num, by omega, ⟨_, HFIN.out⟩, HBF.out⟩, by simp [intOf]; omega⟩
          · go_simp
            refine hK.out _ _ ?_ (fun hHeld => ?_)
            · trivial
            clear hK K
            try simp only [Act.put, List.setIfInBounds_toArray, List.set_cons_zero, List.set_cons_succ]
            refine wpAnyH_take (i := 10) (oi := { dst := some 63, op := Op.build 64 #[(0, Operand.tmp 59), (1, Operand.tmp 60), (2, Operand.tmp 62), (3, Operand.const (Value.bool true))], type := 64, pos := "ref.go:113", after := #[{ on := 6, ground := Ground.data }, { on := 7, ground := Ground.data }, { on := 9, ground := Ground.data }], guard := none }) (v := .agg #[.string nm, .slice A6 fa c6, .int .i64 ((fa : Nat) : Int), .bool true]) rfl (by kernel_rfl) (by kernel_rfl) (by kernel_rfl) (fun _ _ _ h => h) (Or.inl ⟨by rfl, fun w hSw => ?_⟩) (by assumption) ?_
            · (try dsimp only at hSw)
              go_simp
            try simp only [Act.put, List.setIfInBounds_toArray, List.set_cons_zero, List.set_cons_succ]
            refine wpAnyH_ready (rs := [4, 11]) (by kernel_rfl) (by simp) ?_
            refine AllReadyH.cons (o := { dst := some 57, op := Op.load 27 (Operand.tmp 56), type := 27, pos := "ref.go:113", after := #[{ on := 3, ground := Ground.data }], guard := none }) rfl (fun K hK => ?_) (AllReadyH.cons (o := { dst := some 64, op := Op.buildSlice 27 1 #[(0, Operand.tmp 63)], type := 27, pos := "ref.go:113", after := #[{ on := 10, ground := Ground.data }], guard := none }) rfl (fun K hK => ?_) (AllReadyH.nil))
            · go_simp
              refine hK.out _ _ ?_ (fun hHeld => ?_)
              · trivial
              clear hK K
              try simp only [Act.put, List.setIfInBounds_toArray, List.set_cons_zero, List.set_cons_succ]
              refine wpAnyH_ready (rs := [11]) (by kernel_rfl) (by simp) ?_
              refine AllReadyH.cons (o := { dst := some 64, op := Op.buildSlice 27 1 #[(0, Operand.tmp 63)], type := 27, pos := "ref.go:113", after := #[{ on := 10, ground := Ground.data }], guard := none }) rfl (fun K hK => ?_) (AllReadyH.nil)
              go_simp
              have hk : Below k101.heap.size k101 (k101.alloc (Obj.cells #[.string nm, .slice A6 fa c6, .int .i64 ((fa : Nat) : Int), .bool true] 64)) := below_new k101 _
              have hnw : (k101.alloc (Obj.cells #[.string nm, .slice A6 fa c6, .int .i64 ((fa : Nat) : Int), .bool true] 64)).rangeAt k101.heap.size 0 [.string nm, .slice A6 fa c6, .int .i64 ((fa : Nat) : Int), .bool true] := cells_new9 _ _ _
              obtain ⟨b1, hb1⟩ : ∃ b1, k101.heap.size = b1 := ⟨_, rfl⟩
              have hb1z : b1 < (k101.alloc (Obj.cells #[.string nm, .slice A6 fa c6, .int .i64 ((fa : Nat) : Int), .bool true] 64)).heap.size := by rw [← hb1]; simp
              generalize k101.alloc (Obj.cells #[.string nm, .slice A6 fa c6, .int .i64 ((fa : Nat) : Int), .bool true] 64) = k102 at *
              have HNW := Lib.hid hnw; clear hnw
              replace hc0 : k102.cell? ⟨g2, 0, none⟩ = some (.slice A2 m2 c2) := (hk.cell (p := ⟨g2, 0, none⟩) (by first | (simp; done) | (simp; omega) | omega)).trans hc0
              replace hnb : k102.cell? ⟨gb, 0, none⟩ = some (.string nm) := (hk.cell (p := ⟨gb, 0, none⟩) (by first | (simp; done) | (simp; omega) | omega)).trans hnb
              replace HD6 := Lib.hid ((HD6.out).below hk)
              replace HO6 := Lib.hid ((HO6.out).below hk)
              replace hb : Below w.heap.size w k102 := hb.trans (hk.mono hb.size)
              have hkz := hk.size
              have hlt2 : g2 < k102.heap.size := (by first | (simp; done) | (simp; omega) | omega)
              have hg6 : gb < k102.heap.size := (by first | (simp; done) | (simp; omega) | omega)
              rw [hb1] at HNW
              try rw [hb1]
              clear hk
              refine hK.out _ _ ?_ (fun hHeld => ?_)
              · trivial
              clear hK K
              try simp only [Act.put, List.setIfInBounds_toArray, List.set_cons_zero, List.set_cons_succ]
              refine wpAnyH_ready (rs := [12]) (by kernel_rfl) (by simp) ?_
              refine AllReadyH.cons (o := { dst := some 65, op := Op.call { callee := Callee.builtin Builtin.append, args := #[Operand.tmp 57, Operand.tmp 64], argTypes := #[27, 27] }, type := 27, pos := "ref.go:113", after := #[{ on := 4, ground := Ground.data }, { on := 11, ground := Ground.data }], guard := none }) rfl (fun K hK => ?_) (AllReadyH.nil)
              rw [if_pos (by rfl)]
              refine wp_append_fil _ _ rfl g2 g2 _ (.slice A6 fa c6) (crash9 n (l.take k)) 0 b1 (⟨nm, l[k].b.take fa, fa, true⟩ : Fil) HD6.out HO6.out rfl rfl HNW.out hm2l (by omega) (fun k hk => Nat.lt_of_lt_of_le (HNN.out k hk) hb.size) ?_
              intro v12 k103 ho12 hk hbox
              obtain ⟨A12, c12, hv12⟩ := ho12.slice
              obtain ⟨m12, hm12⟩ : ∃ m12, (crash9 n (l.take k) ++ [(⟨nm, l[k].b.take fa, fa, true⟩ : Fil)]).length = m12 := ⟨_, rfl⟩
              rw [hm12] at hv12
              subst hv12
              replace hc0 : k103.cell? ⟨g2, 0, none⟩ = some (.slice A2 m2 c2) := by rw [cell_of_row k103 g2 0 _ _ _ hbox]; rfl
              have hfz : k103.frozen? ⟨g2, 0, none⟩ = false := frozen_of_row k103 g2 0 _ _ hbox
              replace hb : Below w.heap.size w k103 := hb.trans (hk.mono (Nat.le_of_eq hg2))
              have HO12 := Lib.hid ho12
              have HBX12 := Lib.hid hbox
              clear HNW HO6 HD6 hnb ho12 hbox hk
              refine hK.out _ _ ?_ (fun hHeld => ?_)
              · trivial
              clear hK K
              try simp only [Act.put, List.setIfInBounds_toArray, List.set_cons_zero, List.set_cons_succ]
              refine wpAnyH_take (i := 13) (oi := { dst := some 66, op := Op.nilCheck (Operand.tmp 53), type := 0, pos := "ref.go:113", after := #[{ on := 0, ground := Ground.data }, { on := 0, ground := Ground.phase }, { on := 1, ground := Ground.phase }, { on := 2, ground := Ground.phase }, { on := 3, ground := Ground.phase }, { on := 4, ground := Ground.phase }, { on := 5, ground := Ground.phase }, { on := 6, ground := Ground.phase }, { on := 7, ground := Ground.phase }, { on := 8, ground := Ground.phase }, { on := 9, ground := Ground.phase }, { on := 10, ground := Ground.phase }, { on := 11, ground := Ground.phase }, { on := 12, ground := Ground.phase }], guard := none }) (v := .pointer (some ⟨g2, 0, none⟩)) rfl (by kernel_rfl) (by kernel_rfl) (by kernel_rfl) (fun _ _ _ h => h) (Or.inl ⟨by rfl, fun w hSw => ?_⟩) (by assumption) ?_
              · (try dsimp only at hSw)
                go_simp
              try simp only [Act.put, List.setIfInBounds_toArray, List.set_cons_zero, List.set_cons_succ]
              refine wpAnyH_take (i := 14) (oi := { dst := some 67, op := Op.fieldAddr 29 (Operand.tmp 66) 0, type := 0, pos := "ref.go:113", after := #[{ on := 13, ground := Ground.data }, { on := 0, ground := Ground.phase }, { on := 1, ground := Ground.phase }, { on := 2, ground := Ground.phase }, { on := 3, ground := Ground.phase }, { on := 4, ground := Ground.phase }, { on := 5, ground := Ground.phase }, { on := 6, ground := Ground.phase }, { on := 7, ground := Ground.phase }, { on := 8, ground := Ground.phase }, { on := 9, ground := Ground.phase }, { on := 10, ground := Ground.phase }, { on := 11, ground := Ground.phase }, { on := 12, ground := Ground.phase }], guard := none }) (v := .pointer (some ⟨g2, 0, none⟩)) rfl (by kernel_rfl) (by kernel_rfl) (by kernel_rfl) (fun _ _ _ h => h) (Or.inl ⟨by rfl, fun w hSw => ?_⟩) (by assumption) ?_
              · (try dsimp only at hSw)
                go_simp
              try simp only [Act.put, List.setIfInBounds_toArray, List.set_cons_zero, List.set_cons_succ]
              refine wpAnyH_ready (rs := [15]) (by kernel_rfl) (by simp) ?_
              refine AllReadyH.cons (o := { dst := none, op := Op.store 27 (Operand.tmp 67) (Operand.tmp 65), type := 0, pos := "ref.go:113", after := #[{ on := 14, ground := Ground.data }, { on := 12, ground := Ground.data }, { on := 12, ground := Ground.chain }, { on := 0, ground := Ground.phase }, { on := 1, ground := Ground.phase }, { on := 2, ground := Ground.phase }, { on := 3, ground := Ground.phase }, { on := 4, ground := Ground.phase }, { on := 5, ground := Ground.phase }, { on := 6, ground := Ground.phase }, { on := 7, ground := Ground.phase }, { on := 8, ground := Ground.phase }, { on := 9, ground := Ground.phase }, { on := 10, ground := Ground.phase }, { on := 11, ground := Ground.phase }, { on := 12, ground := Ground.phase }], guard := none }) rfl (fun K hK => ?_) (AllReadyH.nil)
              go_simp
              refine hK.out _ _ ?_ (fun hHeld => ?_)
              · trivial
              clear hK K
              try simp only [Act.put, List.setIfInBounds_toArray, List.set_cons_zero, List.set_cons_succ]
              refine wpAnyH_done (by kernel_rfl) ?_ _
              refine NoPanic.normal ?_
              have hfin : Dsk N (k103.setCell ⟨g2, 0, none⟩ (.slice A12 m12 c12)) g2 g2 (.slice A12 m12 c12) (crash9 n (l.take (k + 1))) 0 := by
                rw [HTAKE.out, HLEFT.out]
                exact ⟨Nat.le_refl _, HAV.out, by rw [heap_setCell_same _ g2 0 _ _ _ HBX12.out]; rfl, HO12.out.far HBX12.out disk_ne_file disk_ne_u8⟩
              have HFIN := Lib.hid hfin
              have HBF := Lib.hid (hb.setCell (p := ⟨g2, 0, none⟩) (Nat.le_of_eq hg2) (.slice A12 m12 c12))
              clear hfin hb
              go_wp2
              refine ⟨⟨k + 1, by go_num, by omega, ⟨_, HFIN.out⟩, HBF.out⟩, by simp [intOf]; omega⟩
            · go_simp
              have hk : Below k101.heap.size k101 (k101.alloc (Obj.cells #[.string nm, .slice A6 fa c6, .int .i64 ((fa : Nat) : Int), .bool true] 64)) := below_new k101 _
              have hnw : (k101.alloc (Obj.cells #[.string nm, .slice A6 fa c6, .int .i64 ((fa : Nat) : Int), .bool true] 64)).rangeAt k101.heap.size 0 [.string nm, .slice A6 fa c6, .int .i64 ((fa : Nat) : Int), .bool true] := cells_new9 _ _ _
              obtain ⟨b1, hb1⟩ : ∃ b1, k101.heap.size = b1 := ⟨_, rfl⟩
              have hb1z : b1 < (k101.alloc (Obj.cells #[.string nm, .slice A6 fa c6, .int .i64 ((fa : Nat) : Int), .bool true] 64)).heap.size := by rw [← hb1]; simp
              generalize k101.alloc (Obj.cells #[.string nm, .slice A6 fa c6, .int .i64 ((fa : Nat) : Int), .bool true] 64) = k102 at *
              have HNW := Lib.hid hnw; clear hnw
              replace hc0 : k102.cell? ⟨g2, 0, none⟩ = some (.slice A2 m2 c2) := (hk.cell (p := ⟨g2, 0, none⟩) (by first | (simp; done) | (simp; omega) | omega)).trans hc0
              replace hnb : k102.cell? ⟨gb, 0, none⟩ = some (.string nm) := (hk.cell (p := ⟨gb, 0, none⟩) (by first | (simp; done) | (simp; omega) | omega)).trans hnb
              replace HD6 := Lib.hid ((HD6.out).below hk)
              replace HO6 := Lib.hid ((HO6.out).below hk)
              replace hb : Below w.heap.size w k102 := hb.trans (hk.mono hb.size)
              have hkz := hk.size
              have hlt2 : g2 < k102.heap.size := (by first | (simp; done) | (simp; omega) | omega)
              have hg6 : gb < k102.heap.size := (by first | (simp; done) | (simp; omega) | omega)
              rw [hb1] at HNW
              try rw [hb1]
              clear hk
              refine hK.out _ _ ?_ (fun hHeld => ?_)
              · trivial
              clear hK K
              try simp only [Act.put, List.setIfInBounds_toArray, List.set_cons_zero, List.set_cons_succ]
              refine wpAnyH_ready (rs := [4]) (by kernel_rfl) (by simp) ?_
              refine AllReadyH.cons (o := { dst := some 57, op := Op.load 27 (Operand.tmp 56), type := 27, pos := "ref.go:113", after := #[{ on := 3, ground := Ground.data }], guard := none }) rfl (fun K hK => ?_) (AllReadyH.nil)
              go_simp
              refine hK.out _ _ ?_ (fun hHeld => ?_)
              · trivial
              clear hK K
              try simp only [Act.put, List.setIfInBounds_toArray, List.set_cons_zero, List.set_cons_succ]
              refine wpAnyH_ready (rs := [12]) (by kernel_rfl) (by simp) ?_
              refine AllReadyH.cons (o := { dst := some 65, op := Op.call { callee := Callee.builtin Builtin.append, args := #[Operand.tmp 57, Operand.tmp 64], argTypes := #[27, 27] }, type := 27, pos := "ref.go:113", after := #[{ on := 4, ground := Ground.data }, { on := 11, ground := Ground.data }], guard := none }) rfl (fun K hK => ?_) (AllReadyH.nil)
              rw [if_pos (by rfl)]
              refine wp_append_fil _ _ rfl g2 g2 _ (.slice A6 fa c6) (crash9 n (l.take k)) 0 b1 (⟨nm, l[k].b.take fa, fa, true⟩ : Fil) HD6.out HO6.out rfl rfl HNW.out hm2l (by omega) (fun k hk => Nat.lt_of_lt_of_le (HNN.out k hk) hb.size) ?_
              intro v12 k103 ho12 hk hbox
              obtain ⟨A12, c12, hv12⟩ := ho12.slice
              obtain ⟨m12, hm12⟩ : ∃ m12, (crash9 n (l.take k) ++ [(⟨nm, l[k].b.take fa, fa, true⟩ : Fil)]).length = m12 := ⟨_, rfl⟩
              rw [hm12] at hv12
              subst hv12
              replace hc0 : k103.cell? ⟨g2, 0, none⟩ = some (.slice A2 m2 c2) := by rw [cell_of_row k103 g2 0 _ _ _ hbox]; rfl
              have hfz : k103.frozen? ⟨g2, 0, none⟩ = false := frozen_of_row k103 g2 0 _ _ hbox
              replace hb : Below w.heap.size w k103 := hb.trans (hk.mono (Nat.le_of_eq hg2))
              have HO12 := Lib.hid ho12
              have HBX12 := Lib.hid hbox
              clear HNW HO6 HD6 hnb ho12 hbox hk
              refine hK.out _ _ ?_ (fun hHeld => ?_)
              · trivial
              clear hK K
              try simp only [Act.put, List.setIfInBounds_toArray, List.set_cons_zero, List.set_cons_succ]
              refine wpAnyH_take (i := 13) (oi := { dst := some 66, op := Op.nilCheck (Operand.tmp 53), type := 0, pos := "ref.go:113", after := #[{ on := 0, ground := Ground.data }, { on := 0, ground := Ground.phase }, { on := 1, ground := Ground.phase }, { on := 2, ground := Ground.phase }, { on := 3, ground := Ground.phase }, { on := 4, ground := Ground.phase }, { on := 5, ground := Ground.phase }, { on := 6, ground := Ground.phase }, { on := 7, ground := Ground.phase }, { on := 8, ground := Ground.phase }, { on := 9, ground := Ground.phase }, { on := 10, ground := Ground.phase }, { on := 11, ground := Ground.phase }, { on := 12, ground := Ground.phase }], guard := none }) (v := .pointer (some ⟨g2, 0, none⟩)) rfl (by kernel_rfl) (by kernel_rfl) (by kernel_rfl) (fun _ _ _ h => h) (Or.inl ⟨by rfl, fun w hSw => ?_⟩) (by assumption) ?_
              · (try dsimp only at hSw)
                go_simp
              try simp only [Act.put, List.setIfInBounds_toArray, List.set_cons_zero, List.set_cons_succ]
              refine wpAnyH_take (i := 14) (oi := { dst := some 67, op := Op.fieldAddr 29 (Operand.tmp 66) 0, type := 0, pos := "ref.go:113", after := #[{ on := 13, ground := Ground.data }, { on := 0, ground := Ground.phase }, { on := 1, ground := Ground.phase }, { on := 2, ground := Ground.phase }, { on := 3, ground := Ground.phase }, { on := 4, ground := Ground.phase }, { on := 5, ground := Ground.phase }, { on := 6, ground := Ground.phase }, { on := 7, ground := Ground.phase }, { on := 8, ground := Ground.phase }, { on := 9, ground := Ground.phase }, { on := 10, ground := Ground.phase }, { on := 11, ground := Ground.phase }, { on := 12, ground := Ground.phase }], guard := none }) (v := .pointer (some ⟨g2, 0, none⟩)) rfl (by kernel_rfl) (by kernel_rfl) (by kernel_rfl) (fun _ _ _ h => h) (Or.inl ⟨by rfl, fun w hSw => ?_⟩) (by assumption) ?_
              · (try dsimp only at hSw)
                go_simp
              try simp only [Act.put, List.setIfInBounds_toArray, List.set_cons_zero, List.set_cons_succ]
              refine wpAnyH_ready (rs := [15]) (by kernel_rfl) (by simp) ?_
              refine AllReadyH.cons (o := { dst := none, op := Op.store 27 (Operand.tmp 67) (Operand.tmp 65), type := 0, pos := "ref.go:113", after := #[{ on := 14, ground := Ground.data }, { on := 12, ground := Ground.data }, { on := 12, ground := Ground.chain }, { on := 0, ground := Ground.phase }, { on := 1, ground := Ground.phase }, { on := 2, ground := Ground.phase }, { on := 3, ground := Ground.phase }, { on := 4, ground := Ground.phase }, { on := 5, ground := Ground.phase }, { on := 6, ground := Ground.phase }, { on := 7, ground := Ground.phase }, { on := 8, ground := Ground.phase }, { on := 9, ground := Ground.phase }, { on := 10, ground := Ground.phase }, { on := 11, ground := Ground.phase }, { on := 12, ground := Ground.phase }], guard := none }) rfl (fun K hK => ?_) (AllReadyH.nil)
              go_simp
              refine hK.out _ _ ?_ (fun hHeld => ?_)
              · trivial
              clear hK K
              try simp only [Act.put, List.setIfInBounds_toArray, List.set_cons_zero, List.set_cons_succ]
              refine wpAnyH_done (by kernel_rfl) ?_ _
              refine NoPanic.normal ?_
              have hfin : Dsk N (k103.setCell ⟨g2, 0, none⟩ (.slice A12 m12 c12)) g2 g2 (.slice A12 m12 c12) (crash9 n (l.take (k + 1))) 0 := by
                rw [HTAKE.out, HLEFT.out]
                exact ⟨Nat.le_refl _, HAV.out, by rw [heap_setCell_same _ g2 0 _ _ _ HBX12.out]; rfl, HO12.out.far HBX12.out disk_ne_file disk_ne_u8⟩
              have HFIN := Lib.hid hfin
              have HBF := Lib.hid (hb.setCell (p := ⟨g2, 0, none⟩) (Nat.le_of_eq hg2) (.slice A12 m12 c12))
              clear hfin hb
              go_wp2
              refine ⟨⟨k + 1, by go_num, by omega, ⟨_, HFIN.out⟩, HBF.out⟩, by simp [intOf]; omega⟩
    · have hge : (m : Int) ≤ k := by omega
      obtain rfl : k = m := by omega
      clear hlt
      go_wp2
      go_ret
      rw [← hm, List.take_length] at HD2
      exact ⟨g2, v2, rfl, hg2 ▸ HD2.out, HB.out⟩
end Go.Proofs.Ytbdengcblncfmaa
