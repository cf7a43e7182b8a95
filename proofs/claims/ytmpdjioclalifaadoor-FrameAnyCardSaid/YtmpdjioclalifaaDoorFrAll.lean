/-
  Package frame's All tells the frames one behind the other as the plain relation says, in new memory.
  The bytes are there in memory, at most 1,000,000; package crc's table lies as it was laid.
-/
import Derived.Test.YtmpdjioclalifaaDoorFrOpen
import Derived.Test.YtmpdjioclalifaaDoorL5Own
import Derived.Deep.AppendLies
import Derived.Deep.MidRow
set_option linter.unusedSimpArgs false
set_option linter.unusedVariables false
namespace Go.Proofs.YtmpdjioclalifaaDoor
open Go.RowKit Go.Deep
set_option maxRecDepth 100000

/-- the frames at the beginning, and how many bytes they take -/
inductive AllR : List UInt8 → List (Nat × List UInt8) → Nat → Prop
  | nil (l : List UInt8) (h : (openB l).2.2.2 ≠ 0) : AllR l [] 0
  | cons (l : List UInt8) (k : Nat) (b : List UInt8) (n : Nat) (fs : List (Nat × List UInt8)) (u : Nat) (h : openB l = (k, b, n, 0)) (h2 : AllR (l.drop n) fs u) : AllR l ((k, b) :: fs) (n + u)
theorem AllR.two {l : List UInt8} {fs : List (Nat × List UInt8)} {u : Nat} (h : AllR l fs u) : ∀ {gs : List (Nat × List UInt8)} {v : Nat}, AllR l gs v → fs = gs ∧ u = v := by
  induction h with
  | nil l h =>
    intro gs v h2
    cases h2 with
    | nil _ _ => exact ⟨rfl, rfl⟩
    | cons _ k b n fs u h3 h4 => rw [h3] at h; exact absurd rfl h
  | cons l k b n fs u h h2 ih =>
    intro gs v h3
    cases h3 with
    | nil _ h4 => rw [h] at h4; exact absurd rfl h4
    | cons _ k' b' n' fs' u' h4 h5 =>
      rw [h] at h4
      simp only [Prod.mk.injEq, and_true] at h4
      obtain ⟨rfl, rfl, rfl⟩ := h4
      obtain ⟨rfl, rfl⟩ := ih h5
      exact ⟨rfl, rfl⟩
theorem AllR.len {l : List UInt8} {fs : List (Nat × List UInt8)} {u : Nat} (h : AllR l fs u) : u ≤ l.length ∧ fs.length * 6 ≤ u := by
  induction h with
  | nil l h => exact ⟨Nat.zero_le _, Nat.le_refl _⟩
  | cons l k b n fs u h h2 ih =>
    have := openB_good h
    rw [List.length_drop] at ih
    simp only [List.length_cons]
    omega
/-- frames one behind the other -/
def catB (L : List (Nat × List UInt8)) : List UInt8 := L.flatMap fun p => sealB (p.1 : Int) p.2
theorem catB_snoc (L : List (Nat × List UInt8)) (p : Nat × List UInt8) : catB (L ++ [p]) = catB L ++ sealB (p.1 : Int) p.2 := by unfold catB; rw [List.flatMap_append]; simp
theorem AllR.cat {rest : List UInt8} {fs : List (Nat × List UInt8)} {u : Nat} (h : AllR rest fs u) : ∀ (L : List (Nat × List UInt8)), (∀ p ∈ L, 1 ≤ p.1 ∧ p.1 ≤ 255 ∧ p.2.length ≤ 4000) → AllR (catB L ++ rest) (L ++ fs) ((catB L).length + u)
  | [], _ => by simpa [catB] using h
  | p :: t, hp => by
    obtain ⟨h0, h1, h2⟩ := hp p (List.mem_cons_self ..)
    have ih := h.cat t (fun q hq => hp q (List.mem_cons_of_mem _ hq))
    have ho := openB_seal (p.1 : Int) p.2 (catB t ++ rest) (by omega) (by omega) h2
    have e : catB (p :: t) ++ rest = sealB (p.1 : Int) p.2 ++ (catB t ++ rest) := by unfold catB; rw [List.flatMap_cons, List.append_assoc]
    have e2 : (catB (p :: t)).length + u = (sealB (p.1 : Int) p.2).length + ((catB t).length + u) := by unfold catB; rw [List.flatMap_cons, List.length_append]; omega
    rw [e, e2]
    rw [Int.toNat_natCast] at ho
    refine AllR.cons _ p.1 p.2 _ _ _ ho ?_
    rw [List.drop_left]
    exact ih
def fcs (p : (Nat × List UInt8) × Value) : List Value := [.int .i64 (p.1.1 : Nat), p.2]
/-- a row of frames of one's own, whose bodies are rows of one's own, too -/
def OwnF (B : Nat) (v : Value) (l : List (Nat × List UInt8)) (w : World) : Prop :=
  ∃ ps : List ((Nat × List UInt8) × Value), ps.map (·.1) = l ∧ w.ownsRow B 38 2 v l.length (ps.flatMap fcs) ∧ ∀ p ∈ ps, OwnB 0 p.2 p.1.2 w
theorem OwnF.nil (B : Nat) (w : World) : OwnF B (.slice none 0 0) [] w := ⟨[], rfl, World.ownsRow_nil _ _ _ _, fun p hp => by cases hp⟩
theorem OwnF.below {B : Nat} {v : Value} {l : List (Nat × List UInt8)} {w w' : World} (h : OwnF B v l w) (hb : Below w.heap.size w w') : OwnF B v l w' := by
  obtain ⟨ps, e, h1, h2⟩ := h
  exact ⟨ps, e, ownsRow_below h1 hb, fun p hp => (h2 p hp).below hb⟩
theorem OwnF.slice {B : Nat} {v : Value} {l : List (Nat × List UInt8)} {w : World} (h : OwnF B v l w) : ∃ A c, v = .slice A l.length c := by
  obtain ⟨ps, e, h1, _⟩ := h
  exact own_slice h1
theorem fflat_at : ∀ (l : List ((Nat × List UInt8) × Value)) (k : Nat) (h : k < l.length) (j : Nat) (v : Value), (fcs l[k])[j]? = some v → (l.flatMap fcs)[k * 2 + j]? = some v
  | x :: t, 0, _, j, v, hv => by
    have hj : j < (fcs x).length := (List.getElem?_eq_some_iff.1 hv).1
    rw [List.flatMap_cons, Nat.zero_mul, Nat.zero_add, List.getElem?_append_left hj]; exact hv
  | x :: t, k + 1, h, j, v, hv => by
    have h3 : (fcs x).length = 2 := rfl
    rw [List.flatMap_cons, List.getElem?_append_right (by omega), h3, show (k + 1) * 2 + j - 2 = k * 2 + j by omega]
    exact fflat_at t k (by simpa using h) j v hv
theorem OwnF.at_ {B n c : Nat} {A : Option Addr} {l : List (Nat × List UInt8)} {w : World} (h : OwnF B (.slice A n c) l w) (k : Nat) (hk : k < l.length) :
    ∃ g u, A = some ⟨g, 0, Option.none⟩ ∧ g < w.heap.size ∧ w.rangeAt g (k * 2) [.int .i64 (l[k].1 : Nat), u] ∧ OwnB 0 u l[k].2 w := by
  obtain ⟨ps, rfl, h1, h2⟩ := h
  have hkp : k < ps.length := by simpa using hk
  have e : (ps.map (·.1))[k] = ps[k].1 := by simp
  have ho := h2 ps[k] (List.getElem_mem hkp)
  have hc := fun (g : Nat) (hg : (Value.slice A n c).ownBlock = some g) => World.ownsRow.cells h1 hg
  have hlt := World.ownsRow.lt h1
  rcases h1.2 with ⟨_, h0⟩ | ⟨g, c', cur, hv2, _⟩
  · omega
  · injection hv2 with e1 _ _
    subst e1
    refine ⟨g, ps[k].2, rfl, (hlt g rfl).2, fun j z hj => ?_, by rw [e]; exact ho⟩
    rw [e] at hj
    have h3 := hc g rfl (k * 2 + j) z (fflat_at ps k hkp j z hj)
    rw [Addr.add_mid] at h3
    rw [← h3]; congr 2; omega
theorem Tryd.infoFound2 : (Tryd.prog.info? 38).map (fun i => (i.zero, i.size, i.bytes)) = some (some (.agg #[.int .i64 0, .slice none 0 0]), 2, 32) := by kernel_rfl
theorem fcs_len (l : List ((Nat × List UInt8) × Value)) : (l.flatMap fcs).length = l.length * 2 := by
  induction l with
  | nil => rfl
  | cons x t ih =>
    have h3 : (fcs x).length = 2 := rfl
    rw [List.flatMap_cons, List.length_append, ih, h3, List.length_cons]; omega
theorem row_grown {B C e e2 s s2 n n2 : Nat} {v v2 : Value} {xs ys : List Value} {w w' : World} (h : w.ownsRow B e s v n xs) (h2 : w.ownsRow C e2 s2 v2 n2 ys) (hb : w.grownBy w' v2.ownBlock) (hne : e ≠ e2) : w'.ownsRow B e s v n xs := by
  refine ⟨h.1, ?_⟩
  rcases h.2 with h0 | ⟨g, c, cur, hv, hB, hg, r⟩
  · exact .inl h0
  · refine .inr ⟨g, c, cur, hv, hB, (hb.block g (Array.getElem?_eq_some_iff.1 hg).1 (fun ee => ?_)).trans hg, r⟩
    rcases h2.2 with ⟨hv2, _⟩ | ⟨g2, c2, cur2, hv2, _, hg2, _⟩
    · rw [hv2] at ee; cases ee
    · rw [hv2] at ee
      have e3 : g2 = g := (Option.some.inj (show some g = some g2 from ee)).symm
      subst e3
      rw [hg] at hg2
      injection hg2 with hg2
      injection hg2 with _ h4 _
      exact hne h4
/-- a frame that lies in a block is put behind a row of one's own -/
theorem wp_append_fd {w : World} {o : Oper} {a : Act} {K : Act → World → Prop} {Q : Exit → Act → World → Prop} (s x : Operand)
    (ho : o.op = .call { callee := .builtin .append, args := #[s, x], argTypes := #[34, 34] })
    (B : Nat) (v : Value) (l : List (Nat × List UInt8)) (y : Nat × List UInt8) (u : Value) (g : Nat) (hs : a.eval s = v) (hown : OwnF B v l w) (hx : a.eval x = .slice (some ⟨g, 0, none⟩) 1 1) (hy : w.rangeAt g 0 [.int .i64 (y.1 : Nat), u]) (hyo : OwnB 0 u y.2 w) (hl : l.length ≤ 1000000) (hB : B ≤ w.heap.size)
    (h : ∀ v' w', OwnF B v' (l ++ [y]) w' → Below B w w' → K (a.put o.dst v') w') : o.wp Tryd.prog a w K Q := by
  obtain ⟨iO, hiO, hzO0, hzO1, hzO2⟩ := info_parts Tryd.infoFound2
  obtain ⟨ps, rfl, h1, h2⟩ := hown
  have hln : (ps.map (·.1)).length = ps.length := List.length_map ..
  have hu1 : u.oneCell' = true := by obtain ⟨A, c, rfl⟩ := own_slice hyo; rfl
  have hgr := fun (w' : World) (hg : w.grownBy w' v.ownBlock) => (Below.refl B w).grown hg hB (fun g hg => (World.ownsRow.lt h1 g hg).1)
  obtain ⟨v', w', hr, h4, h3, _, _⟩ := run_append_own_at (P := Tryd.prog) w B 34 o.type 38 iO _ 2 32 Tryd.underlying34 hiO hzO0 hzO1 hzO2 rfl (by decide) v (ps.map (·.1)).length _ h1 ⟨g, 0, none⟩ 1 1 (fcs (y, u)) rfl
    (by
      intro j z hj
      rw [Addr.add_mid]; exact hy j z hj) (by intro z hz; simp [fcs] at hz; rcases hz with rfl | rfl <;> first | rfl | exact hu1) (by unfold maxLen; omega) (by omega) hB
  unfold Oper.wp execOp
  simp only [ho, resolve, invoke, builtin, Sem.run_bind, Sem.run_pure, Result.andThen_ok, List.map_toArray, List.map_cons, List.map_nil, hs, hx, hr]
  have hne : (5 : TypeId) ≠ 38 := by decide
  refine h v' w' ⟨ps ++ [(y, u)], by simp, ?_, fun p hp => ?_⟩ (hgr w' h3)
  · rw [List.flatMap_append, List.length_append]
    simpa using h4
  · rcases List.mem_append.1 hp with hp | hp
    · exact row_grown (h2 p hp) h1 h3 hne
    · obtain rfl : p = (y, u) := by simpa using hp
      exact row_grown hyo h1 h3 hne
theorem wpList_append_fd {w : World} {ops : Array Oper} {rest : List Oper} {o : Oper} {a : Act} {Q : Exit → Act → World → Prop} (hgd : o.guard = none) (s x : Operand)
    (ho : o.op = .call { callee := .builtin .append, args := #[s, x], argTypes := #[34, 34] })
    (B : Nat) (v : Value) (l : List (Nat × List UInt8)) (y : Nat × List UInt8) (u : Value) (g : Nat) (hs : a.eval s = v) (hown : OwnF B v l w) (hx : a.eval x = .slice (some ⟨g, 0, none⟩) 1 1) (hy : w.rangeAt g 0 [.int .i64 (y.1 : Nat), u]) (hyo : OwnB 0 u y.2 w) (hl : l.length ≤ 1000000) (hB : B ≤ w.heap.size)
    (h : ∀ v' w', OwnF B v' (l ++ [y]) w' → Below B w w' → wpList Tryd.prog ops Q rest (a.put o.dst v') w') : wpList Tryd.prog ops Q (o :: rest) a w :=
  wpList_plain hgd fun _ hK => wp_append_fd s x ho B v l y u g hs hown hx hy hyo hl hB fun v' w' h1 h2 => hK _ _ (h v' w' h1 h2)
theorem cells_new (w : World) (t : TypeId) (cs : List Value) : (w.alloc (.cells cs.toArray t)).rangeAt w.heap.size 0 cs := fun j v hj => by
  have hh : (w.alloc (.cells cs.toArray t)).heap[w.heap.size]? = some (.cells cs.toArray t (0, 0)) := heap_alloc_new _ _
  unfold World.cell?
  rw [hh]
  simpa using hj
theorem fopen_is (A : Option Addr) (n c B : Nat) (l : List UInt8) (r) (w : World) (h : Byt w B (.slice A n c) l) (hB : B ≤ w.heap.size) (hl : l.length ≤ 1000000) (hT : Tbl w) (hr : openB l = r) :
    Calls Tryd.prog 13 #[.slice A n c] w (GotO r w) := by
  rw [← hr, (byt_len h).1]
  exact fopen_any A c B l w (by rw [← (byt_len h).1]; exact h) hB hl hT
/-- the frames that All tells -/
def Got (l : List UInt8) (w : World) (e : Ending) (w' : World) : Prop := ∃ fs u v, AllR l fs u ∧ e = .returned (.tuple #[v, .int .i64 ((u : Nat) : Int)]) ∧ OwnF w.heap.size v fs w' ∧ Below w.heap.size w w'
set_option maxHeartbeats 1000000 in
theorem fall_some (g o c B : Nat) (l : List UInt8) (w : World) (h : Byt w B (.slice (some ⟨g, o, none⟩) l.length c) l) (hB : B ≤ w.heap.size) (hl : l.length ≤ 1000000) (hT : Tbl w) :
    Calls Tryd.prog 15 #[.slice (some ⟨g, o, none⟩) l.length c] w (Got l w) := by
  have HB := Lib.hid h
  have HT := Lib.hid hT; clear hT
  have hcl := (byt_len h).2
  clear h
  go_enter Tryd.func15, Tryd.ntmps15
  go_wp2_with fail
  go_loopw [4, 5] (fun v i wr => ∃ (acc : List (Nat × List UInt8)) (k : Nat), i = .int .i64 k ∧ k ≤ l.length ∧ acc.length ≤ k ∧ OwnF w.heap.size v acc wr ∧ Below w.heap.size w wr ∧ ∀ fs u, AllR (l.drop k) fs u → AllR l (acc ++ fs) (k + u)) (fun _ i _ => l.length - (intOf i).toNat)
  case atStart => exact ⟨[], 0, rfl, Nat.zero_le _, Nat.zero_le _, OwnF.nil _ _, Below.refl _ _, fun fs u h => by simpa using h⟩
  case round =>
    obtain ⟨acc, k, rfl, hk, hacc, hown, hb, hall⟩ := hrel
    obtain ⟨A9, c9, hv9⟩ := hown.slice
    subst hv9
    have HOWN := Lib.hid hown; have HALL := Lib.hid hall; have HACC := Lib.hid hacc
    have hby := (HB.out.below hb hB).cut (k := k) hk
    rw [add_lit] at hby
    have hT2 := tbl_keep HT.out hb
    have hBr : B ≤ wr.heap.size := Nat.le_trans hB hb.size
    have hdl : (l.drop k).length ≤ 1000000 := by rw [List.length_drop]; omega
    obtain ⟨r, hr⟩ : ∃ r, openB (l.drop k) = r := ⟨_, rfl⟩
    have HR := Lib.hid hr; have HT2 := Lib.hid hT2
    obtain ⟨kd, b, n, e⟩ := r
    have hkc : k ≤ c := by omega
    clear hown hall hacc hr hT2
    by_cases hck : c = k
    · have hlk : l.length = k := by omega
      have hd : l.drop k = [] := List.drop_of_length_le (by omega)
      have hby0 : Byt wr B (.slice (some ⟨g, o, none⟩) 0 0) [] := ⟨_, _, rfl, Nat.le_refl _, fun h => absurd h (by simp)⟩
      have hnil : AllR l acc k := by
        have := HALL.out [] 0 (AllR.nil _ (by rw [hd]; decide))
        simpa using this
      have HNIL := Lib.hid hnil
      subst hck
      have HBY := Lib.hid hby0
      clear hnil hby hby0 HR hdl hd hlk
      go_wp2_with fail
      refine (fopen_is _ 0 0 B [] (0, [], 0, 2) _ HBY.out hBr (by simp) HT2.out rfl).mono ?_
      rintro e w1 ⟨v1, rfl, ho1, hb1⟩
      have hown1 := HOWN.out.below hb1
      have hbw1 := hb.trans (hb1.mono hb.size)
      clear ho1
      go_wp2
      exact bodyPost_ret (v := .tuple #[_, .int .i64 (c : Nat)]) (by simp [results, Tryd.results15, go_sem]) rfl ⟨acc, c, _, HNIL.out, rfl, hown1, hbw1⟩
    · rw [if_neg hck] at hby
      have HBY := Lib.hid hby; clear hby
      by_cases he : e = 0
      · subst he
        obtain ⟨n1, n2, n3, n4, n5, n6⟩ := openB_good HR.out
        rw [List.length_drop] at n2
        have hsum : k + n ≤ l.length := by omega
        have HN := Lib.hid (And.intro n1 (And.intro n5 (And.intro n6 hsum)))
        have hkn : (k : Int) + n ≤ 1000000 := by omega
        clear n1 n2 n3 n4 n5 n6 hsum
        go_wp2_with fail
        refine (fopen_is _ _ _ B (l.drop k) (kd, b, n, 0) _ HBY.out hBr hdl HT2.out HR.out).mono ?_
        rintro e w1 ⟨v1, rfl, ho1, hb1⟩
        have hown1 := HOWN.out.below hb1
        have hbw1 := hb.trans (hb1.mono hb.size)
        have ho1' : OwnB 0 v1 b w1 := ho1.down (Nat.zero_le _)
        obtain ⟨A1, c1, hv1⟩ := own_slice ho1'
        subst hv1
        clear hb1 ho1 hb
        have hcell := cells_new w1 38 [.int .i64 ((kd : Nat) : Int), .slice A1 b.length c1]
        have hb1 : Below w.heap.size w (w1.alloc (Obj.cells #[.int .i64 ((kd : Nat) : Int), .slice A1 b.length c1] 38)) := hbw1.alloc hbw1.size _
        have hown1a : OwnF w.heap.size (.slice A9 acc.length c9) acc (w1.alloc (Obj.cells #[.int .i64 ((kd : Nat) : Int), .slice A1 b.length c1] 38)) := hown1.below (below_new _ _)
        have ho1a : OwnB 0 (.slice A1 b.length c1) b (w1.alloc (Obj.cells #[.int .i64 ((kd : Nat) : Int), .slice A1 b.length c1] 38)) := ho1'.alloc _
        have hal : acc.length ≤ 1000000 := by have := HACC.out; omega
        have HAL := Lib.hid hal; clear hal
        go_wp2_with (at_builtin; refine wpList_append_fd rfl _ _ rfl w.heap.size (.slice A9 acc.length c9) acc (kd, b) (.slice A1 b.length c1) w1.heap.size rfl hown1a rfl hcell ho1a HAL.out hb1.size ?_)
        intro v2 w2 hown2 hb2
        have hbw2 := hb1.trans hb2
        clear hown1a hcell ho1a hb1 hb2 hown1 hbw1 ho1'
        go_wp2
        go_roundw
        case rel => exact ⟨acc ++ [(kd, b)], k + n, by go_num, HN.out.2.2.2, by have := HN.out.1; have := HACC.out; simp; omega, hown2, hbw2, fun fs u hh => by
          have := HALL.out ((kd, b) :: fs) (n + u) (AllR.cons _ _ _ _ _ _ HR.out (by rw [List.drop_drop]; exact hh))
          rw [List.append_assoc, Nat.add_assoc]; exact this⟩
        case measure => have := HN.out; first | (simp [intOf]; omega) | (simp [intOf]; done)
      · have hee : ((e : Int) == 0) = false := by rw [beq_eq_false_iff_ne]; omega
        have hnil : AllR l acc k := by
          have := HALL.out [] 0 (AllR.nil _ (by rw [HR.out]; exact he))
          simpa using this
        have HNIL := Lib.hid hnil
        clear he hnil
        go_wp2_with fail
        refine (fopen_is _ _ _ B (l.drop k) (kd, b, n, e) _ HBY.out hBr hdl HT2.out HR.out).mono ?_
        rintro e w1 ⟨v1, rfl, ho1, hb1⟩
        have hown1 := HOWN.out.below hb1
        have hbw1 := hb.trans (hb1.mono hb.size)
        clear ho1
        go_wp2
        exact bodyPost_ret (v := .tuple #[_, .int .i64 (k : Nat)]) (by simp [results, Tryd.results15, go_sem]) rfl ⟨acc, k, _, HNIL.out, rfl, hown1, hbw1⟩
set_option maxHeartbeats 400000 in
theorem fall_nil (w : World) (hT : Tbl w) : Calls Tryd.prog 15 #[.slice none 0 0] w (Got [] w) := by
  have HT := Lib.hid hT; clear hT
  have hby : Byt w w.heap.size (.slice none 0 0) [] := Byt.of_own (ownB_nil 0 w)
  have HBY := Lib.hid hby; clear hby
  have hnil : AllR [] [] 0 := AllR.nil _ (by decide)
  have HNIL := Lib.hid hnil; clear hnil
  go_enter Tryd.func15, Tryd.ntmps15
  go_wp2_with fail
  go_loopw [4, 5] (fun v i wr => v = .slice none 0 0 ∧ i = .int .i64 0 ∧ wr = w) (fun _ _ _ => 1)
  case atStart => exact ⟨rfl, rfl, rfl⟩
  case round =>
    obtain ⟨rfl, rfl, rfl⟩ := hrel
    go_wp2_with fail
    refine (fopen_is _ 0 0 wr.heap.size [] (0, [], 0, 2) _ HBY.out (Nat.le_refl _) (by simp) HT.out rfl).mono ?_
    rintro e w1 ⟨v1, rfl, ho1, hb1⟩
    clear ho1
    go_wp2
    exact bodyPost_ret (v := .tuple #[_, .int .i64 (0 : Nat)]) (by simp [results, Tryd.results15, go_sem]) rfl ⟨[], 0, _, HNIL.out, rfl, OwnF.nil _ _, hb1⟩
/-- All of a row of one's own -/
theorem fall_own (v : Value) (B : Nat) (l : List UInt8) (w : World) (h : OwnB B v l w) (hl : l.length ≤ 1000000) (hT : Tbl w) : Calls Tryd.prog 15 #[v] w (Got l w) := by
  rcases h.2 with ⟨hv, h0⟩ | ⟨g, c, cur, hv, _⟩
  · have : l = [] := List.length_eq_zero_iff.1 h0
    subst this; subst hv
    exact fall_nil w hT
  · have hb := Byt.of_own h
    subst hv
    exact fall_some g 0 c w.heap.size l w hb (Nat.le_refl _) hl hT
end Go.Proofs.YtmpdjioclalifaaDoor
