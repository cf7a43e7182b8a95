/- The reference's fold of stage 7 as data, and its Next. -/
import Derived.Test.YtegkhkcnoahhdaaGreatR7Kit
import Derived.Deep.Cut
set_option linter.unusedSimpArgs false
set_option linter.unusedVariables false
namespace Go.Proofs.YtegkhkcnoahhdaaGreat
open Lib (hid)
open Go.RowKit
set_option maxRecDepth 100000
structure Fo where
 place : Int
 d : List Par
 last : Nat → Int
 told : Nat → Rw
structure FoC (w : World) (B : Nat) (cs : List Value) (f : Fo) : Prop where
 len : cs.length = 38
 place : cs[0]? = some (.int .i64 f.place)
 doc : ∃ ds, cs[1]? = some ds ∧ Prs w B ds f.d
 last : ∀ c, c < 6 → cs[2 + c]? = some (.int .i64 (f.last c))
 told : ∀ c, c < 6 → ∃ s, cs[8 + c * 5]? = some (.int .i64 (f.told c).place) ∧ cs[8 + c * 5 + 1]? = some (.int .i64 (f.told c).b.client) ∧ cs[8 + c * 5 + 2]? = some (.int .i64 (f.told c).b.seq) ∧ cs[8 + c * 5 + 3]? = some s ∧ cs[8 + c * 5 + 4]? = some (.int .i64 (f.told c).err) ∧ Ops w B s (f.told c).b.ops
 one : ∀ v ∈ cs, v.oneCell' = true
 nos : NoStr cs
def FoldV (w : World) (B : Nat) (v : Value) (f : Fo) : Prop := ∃ cs, v = .agg cs.toArray ∧ FoC w B cs f
def upd {α : Type} (g : Nat → α) (c : Nat) (x : α) : Nat → α := fun k => if k = c then x else g k
def nextB (f : Fo) (b : Bat) : Bool := mayB b && b.seq == f.last b.client.toNat + 1
def rowOfB (f : Fo) (b : Bat) : Rw := ⟨f.place + 1, b, (dApply f.d b.ops).2⟩
def nextFo (f : Fo) (b : Bat) : Fo := ⟨f.place + 1, (dApply f.d b.ops).1, upd f.last b.client.toNat b.seq, upd f.told b.client.toNat (rowOfB f b)⟩
def Fo.ok (f : Fo) : Prop := (0 ≤ f.place ∧ f.place ≤ 1000000000000000) ∧ (∀ c, 0 ≤ f.last c ∧ f.last c ≤ 1000000000000000) ∧ f.d.length ≤ 100 ∧ ∀ p ∈ f.d, p.k.size ≤ 1000000
def NextQ (f : Fo) (b : Bat) (v : Value) (w : World) (e : Ending) (w' : World) : Prop :=
 (nextB f b = false → e = .returned (.tuple #[v, .agg #[.int .i64 0, .int .i64 0, .int .i64 0, .slice none 0 0, .int .i64 0], .bool false]) ∧ Below w.heap.size w w') ∧
 (nextB f b = true → ∃ v' r', e = .returned (.tuple #[v', r', .bool true]) ∧ FoldV w' w'.heap.size v' (nextFo f b) ∧ RowV w' w'.heap.size r' (rowOfB f b) ∧ Below w.heap.size w w')
theorem next_no {f : Fo} {b : Bat} {v : Value} {w : World} {g : Nat} {args : Array Value} (hn : nextB f b = false) (h : Calls Tryz.prog g args w fun e w' => e = .returned (.tuple #[v, .agg #[.int .i64 0, .int .i64 0, .int .i64 0, .slice none 0 0, .int .i64 0], .bool false]) ∧ Below w.heap.size w w') : Calls Tryz.prog g args w (NextQ f b v w) :=
 h.mono fun e w' h => ⟨fun _ => h, fun h2 => by rw [hn] at h2; cases h2⟩
theorem next_yes {f : Fo} {b : Bat} {v : Value} {w : World} {g : Nat} {args : Array Value} (hn : nextB f b = true) (h : Calls Tryz.prog g args w fun e w' => ∃ v' r', e = .returned (.tuple #[v', r', .bool true]) ∧ FoldV w' w'.heap.size v' (nextFo f b) ∧ RowV w' w'.heap.size r' (rowOfB f b) ∧ Below w.heap.size w w') : Calls Tryz.prog g args w (NextQ f b v w) :=
 h.mono fun e w' h => ⟨fun h2 => (by rw [hn] at h2; cases h2), fun _ => h⟩
theorem mem_set {α : Type} {l : List α} {j : Nat} {u v : α} (h : v ∈ l.set j u) : v = u ∨ v ∈ l := by
 obtain ⟨i, hi, rfl⟩ := List.getElem_of_mem h
 by_cases hij : j = i
 ·subst hij; left; simp
 ·right; rw [List.getElem_set_ne hij]; exact List.getElem_mem ..
theorem mem_setL {v : Value} : ∀ (vs : List Value) (cs : List Value) (o : Nat), v ∈ setL cs o vs → v ∈ vs ∨ v ∈ cs
 | [], _, _, h => .inr h
 | x :: r, cs, o, h => by
  rcases mem_setL r _ (o + 1) h with h | h
  ·exact .inl (by simp [h])
  ·rcases mem_set h with rfl | h
   ·exact .inl (by simp)
   ·exact .inr h
theorem setL_far : ∀ (vs : List Value) (cs : List Value) (o j : Nat), o + vs.length ≤ j → (setL cs o vs)[j]? = cs[j]?
 | [], _, _, _, _ => rfl
 | v :: r, cs, o, j, h => by
  unfold setL
  simp at h
  rw [setL_far r _ (o + 1) j (by omega), List.getElem?_set_ne (by omega)]
def nextCs (cs : List Value) (u : Value) (p : Int) (n : Nat) (bq : Int) (t : Value) (e3 : Nat) : List Value :=
 setL (((cs.set 1 u).set 0 (.int .i64 p)).set (2 + n) (.int .i64 bq)) (8 + n * 5) [.int .i64 p, .int .i64 (n : Int), .int .i64 bq, t, .int .i64 (e3 : Int)]
theorem foC_next {w w' : World} {B C : Nat} {cs : List Value} {f : Fo} {n : Nat} {bq : Int} {bo : List Opn} {d3 : List Par} {e3 cu ct : Nat} {Au At : Option Addr} (h : FoC w B cs f) (hn : n < 6) (hd : dApply f.d bo = (d3, e3)) (hp : Prs w' C (.slice Au d3.length cu) d3) (ht : Ops w' C (.slice At bo.length ct) bo) (hold : ∀ c, c < 6 → ∀ s, Ops w B s (f.told c).b.ops → Ops w' C s (f.told c).b.ops) :
  FoC w' C (nextCs cs (.slice Au d3.length cu) (f.place + 1) n bq (.slice At bo.length ct) e3) (nextFo f ⟨(n : Int), bq, bo⟩) := by
 have hl := h.len
 have hN : (nextFo f ⟨(n : Int), bq, bo⟩) = ⟨f.place + 1, d3, upd f.last n bq, upd f.told n ⟨f.place + 1, ⟨(n : Int), bq, bo⟩, (e3 : Int)⟩⟩ := by unfold nextFo rowOfB; rw [hd]; simp
 rw [hN]
 unfold nextCs
 refine ⟨by rw [setL_len]; simp [hl], ?_, ⟨.slice Au d3.length cu, ?_, hp⟩, fun c hc => ?_, fun c hc => ?_, fun v hv => ?_, ?_⟩
 ·rw [setL_out _ _ _ _ (by omega), List.getElem?_set_ne (by omega), List.getElem?_set_self (by simp; omega)]
 ·rw [setL_out _ _ _ _ (by omega), List.getElem?_set_ne (by omega), List.getElem?_set_ne (by omega), List.getElem?_set_self (by omega)]
 ·rw [setL_out _ _ _ _ (by omega)]
  by_cases hcn : c = n
  ·subst hcn
   rw [List.getElem?_set_self (by simp; omega)]; simp [upd]
  ·rw [List.getElem?_set_ne (by omega), List.getElem?_set_ne (by omega), List.getElem?_set_ne (by omega), h.last c hc]; simp [upd, hcn]
 ·by_cases hcn : c = n
  ·subst hcn
   have hi := fun j (hj : j < 5) => setL_in [.int .i64 (f.place + 1), .int .i64 (c : Int), .int .i64 bq, .slice At bo.length ct, .int .i64 (e3 : Int)] (((cs.set 1 (.slice Au d3.length cu)).set 0 (.int .i64 (f.place + 1))).set (2 + c) (.int .i64 bq)) (8 + c * 5) j (by simp; omega) (by simpa using hj)
   refine ⟨.slice At bo.length ct, ?_, ?_, ?_, ?_, ?_, ?_⟩
   ·have := hi 0 (by omega); simpa [upd] using this
   ·have := hi 1 (by omega); simpa [upd] using this
   ·have := hi 2 (by omega); simpa [upd] using this
   ·have := hi 3 (by omega); simpa [upd] using this
   ·have := hi 4 (by omega); simpa [upd] using this
   ·simpa [upd] using ht
  ·obtain ⟨s, t0, t1, t2, t3, t4, t5⟩ := h.told c hc
   have hk : ∀ j, j < 5 → (setL (((cs.set 1 (.slice Au d3.length cu)).set 0 (.int .i64 (f.place + 1))).set (2 + n) (.int .i64 bq)) (8 + n * 5) [.int .i64 (f.place + 1), .int .i64 (n : Int), .int .i64 bq, .slice At bo.length ct, .int .i64 (e3 : Int)])[8 + c * 5 + j]? = cs[8 + c * 5 + j]? := fun j hj => by
    have : (setL (((cs.set 1 (.slice Au d3.length cu)).set 0 (.int .i64 (f.place + 1))).set (2 + n) (.int .i64 bq)) (8 + n * 5) [.int .i64 (f.place + 1), .int .i64 (n : Int), .int .i64 bq, .slice At bo.length ct, .int .i64 (e3 : Int)])[8 + c * 5 + j]? = (((cs.set 1 (.slice Au d3.length cu)).set 0 (.int .i64 (f.place + 1))).set (2 + n) (.int .i64 bq))[8 + c * 5 + j]? := by
     rcases Nat.lt_or_gt_of_ne hcn with h1 | h1
     ·exact setL_out _ _ _ _ (by omega)
     ·exact setL_far _ _ _ _ (by simp; omega)
    rw [this, List.getElem?_set_ne (by omega), List.getElem?_set_ne (by omega), List.getElem?_set_ne (by omega)]
   have k0 := hk 0 (by omega)
   rw [Nat.add_zero] at k0
   refine ⟨s, ?_, ?_, ?_, ?_, ?_, ?_⟩
   ·rw [k0, t0]; simp [upd, hcn]
   ·rw [hk 1 (by omega), t1]; simp [upd, hcn]
   ·rw [hk 2 (by omega), t2]; simp [upd, hcn]
   ·rw [hk 3 (by omega), t3]
   ·rw [hk 4 (by omega), t4]; simp [upd, hcn]
   ·have := hold c hc s t5; simpa [upd, hcn] using this
 ·rcases mem_setL _ _ _ hv with h1 | h1
  ·simp at h1
   rcases h1 with rfl | rfl | rfl | rfl | rfl <;> rfl
  ·rcases mem_set h1 with rfl | h1
   ·rfl
   ·rcases mem_set h1 with rfl | h1
    ·rfl
    ·rcases mem_set h1 with rfl | h1
     ·rfl
     ·exact h.one v h1
 ·exact NoStr.sets _ _ _ (((h.nos.set _ (fun s e => by cases e)).set _ (fun s e => by cases e)).set _ (fun s e => by cases e)) (fun v hv s => by
   simp at hv
   rcases hv with rfl | rfl | rfl | rfl | rfl <;> (intro e; cases e))
theorem Tryz.infoFold7 : (Tryz.prog.info? 39).map (·.size) = some 38 := by kernel_rfl
theorem Tryz.infoRow7 : (Tryz.prog.info? 36).map (·.size) = some 5 := by kernel_rfl
set_option maxHeartbeats 2000000 in
theorem rnext_any (B : Nat) (v u : Value) (f : Fo) (b : Bat) (w : World) (h : FoldV w B v f) (hu : BatV w B u b) (hB : B ≤ w.heap.size) (hok : b.ok) (hl : b.ops.length ≤ 1000) (hf : f.ok) :
  Calls Tryz.prog 10 #[v, u] w (NextQ f b v w) := by
 obtain ⟨cs, rfl, hc⟩ := h
 obtain ⟨t, rfl, ht⟩ := hu
 obtain ⟨bc, bq, bo⟩ := b
 obtain ⟨At, ct, rfl, hto⟩ := id ht
 clear hto
 obtain ⟨x, hx⟩ : ∃ x, mayB ⟨bc, bq, bo⟩ = x := ⟨_, rfl⟩
 have hb := Below.refl w.heap.size w
 have HC := hid hc; clear hc
 have HT := hid ht; clear ht
 have HX := hid hx; clear hx
 have HOK := hid hok; clear hok
 have HFO := hid hf; clear hf
 simp only at hl
 cases x
 ·have hn : nextB f ⟨bc, bq, bo⟩ = false := by unfold nextB; rw [HX.out]; rfl
  refine next_no hn ?_
  go_enter Tryz.func10, Tryz.ntmps10
  go_wp2_with fail
  refine wp_world (fun W => ∃ z : List Value, z.length = 38 ∧ NoStr z ∧ Rb W (w.heap.size) 39 cs ∧ Rb W (w.heap.size + 1) 33 [.int .i64 bc, .int .i64 bq, .slice At bo.length ct] ∧ Rb W (w.heap.size + 1 + 1) 39 z ∧ Rb W (w.heap.size + 1 + 1 + 1) 36 [.int .i64 0, .int .i64 0, .int .i64 0, .slice none 0 0, .int .i64 0] ∧ Below w.heap.size w W ∧ w.heap.size + 4 ≤ W.heap.size) (four_is w cs [.int .i64 bc, .int .i64 bq, .slice At bo.length ct] _ [.int .i64 0, .int .i64 0, .int .i64 0, .slice none 0 0, .int .i64 0] 39 33 39 36 38 rfl (noStr_of (by intro v hv s e; subst e; simp at hv))) ?_
  rintro k1 ⟨zz, hzz, hzn, hr0, hr1, hr2, hr3, hb, hz4⟩
  have HR0 := hid hr0; clear hr0
  have HR1 := hid hr1; clear hr1
  have HR2 := hid hr2; clear hr2
  have HR3 := hid hr3; clear hr3
  have b0 : k1.cell? ⟨w.heap.size + 1, 0, none⟩ = some (.int .i64 bc) := HR1.out.cell rfl
  have b1 : k1.cell? ⟨w.heap.size + 1, 1, none⟩ = some (.int .i64 bq) := HR1.out.cell rfl
  have b2 : k1.cell? ⟨w.heap.size + 1, 2, none⟩ = some (.slice At bo.length ct) := HR1.out.cell rfl
  have lt0 : w.heap.size + 1 < k1.heap.size := by omega
  replace b0 : k1.drew.cell? ⟨w.heap.size + 1, 0, none⟩ = some (.int .i64 bc) := b0
  replace b1 : k1.drew.cell? ⟨w.heap.size + 1, 1, none⟩ = some (.int .i64 bq) := b1
  replace b2 : k1.drew.cell? ⟨w.heap.size + 1, 2, none⟩ = some (.slice At bo.length ct) := b2
  replace HR0 := hid (Rb.below HR0.out ((Below.refl k1.heap.size k1).drew))
  replace HR1 := hid (Rb.below HR1.out ((Below.refl k1.heap.size k1).drew))
  replace HR2 := hid (Rb.below HR2.out ((Below.refl k1.heap.size k1).drew))
  replace HR3 := hid (Rb.below HR3.out ((Below.refl k1.heap.size k1).drew))
  refine wp_region_noPanic ?_
  refine wp_region_held_drew (S := fun W => W.cell? ⟨w.heap.size + 1, 0, none⟩ = some (.int .i64 bc) ∧ W.cell? ⟨w.heap.size + 1, 1, none⟩ = some (.int .i64 bq) ∧ W.cell? ⟨w.heap.size + 1, 2, none⟩ = some (.slice At bo.length ct)) (by kernel_rfl) ?_ (fun hHeld => ?_)
  ·exact ⟨b0, b1, b2⟩
  replace hb : Below w.heap.size w k1.drew := hb.drew
  replace lt0 : w.heap.size + 1 < k1.drew.heap.size := lt0
  have hzd : k1.heap.size ≤ k1.drew.heap.size := Nat.le_refl _
  generalize k1.drew = k2 at *
  refine tk9 0 (.agg #[.int .i64 bc, .int .i64 bq, .slice At bo.length ct]) rfl (fun w hSw => ?_) ?_
  ·(try dsimp only at hSw)
   go_simp
  try simp only [P9]
  refine wpAnyH_ready (rs := [1]) (by kernel_rfl) (by simp) ?_
  refine AllReadyH.cons (o := _) rfl (fun K hK => ?_) (AllReadyH.nil)
  go_simp
  go_at_call 28
  refine (rmayBatch_is B _ ⟨bc, bq, bo⟩ false _ ⟨_, rfl, ops_below HT.out hb hB⟩ (Nat.le_trans hB hb.size) HOK.out hl HX.out).mono ?_
  rintro e k3 ⟨rfl, h⟩
  have hk : Below k2.heap.size k2 k3 := HK9 h
  have hz := h.size
  try simp at hz
  replace b0 := (hk.cell LT9).trans b0
  replace b1 := (hk.cell LT9).trans b1
  replace b2 := (hk.cell LT9).trans b2
  replace HR0 := hid (Rb.below HR0.out hk)
  replace HR1 := hid (Rb.below HR1.out hk)
  replace HR2 := hid (Rb.below HR2.out hk)
  replace HR3 := hid (Rb.below HR3.out hk)
  replace hb : Below w.heap.size w k3 := hb.trans (hk.mono hb.size)
  have lt0 : w.heap.size + 1 < k3.heap.size := LT9
  clear h hk
  try dsimp only
  refine hK.out _ _ ?_ (fun hHeld => ?_)
  ·exact ⟨b0, b1, b2⟩
  clear hK K
  try simp only [P9]
  refine tk9 2 (.bool true) rfl (fun w hSw => ?_) ?_
  ·(try dsimp only at hSw)
   go_simp
  try simp only [P9]
  refine tk9 3 (.bool true) rfl (fun w hSw => ?_) ?_
  ·(try dsimp only at hSw)
   go_simp
  try simp only [P9]
  refine tk7 4 rfl ?_
  try simp only [P9]
  refine tk7 5 rfl ?_
  try simp only [P9]
  refine tk7 6 rfl ?_
  try simp only [P9]
  refine tk7 7 rfl ?_
  try simp only [P9]
  refine tk7 8 rfl ?_
  try simp only [P9]
  refine tk7 9 rfl ?_
  try simp only [P9]
  refine tk7 10 rfl ?_
  try simp only [P9]
  refine tk7 11 rfl ?_
  try simp only [P9]
  refine tk7 12 rfl ?_
  try simp only [P9]
  refine tk9 13 (.bool true) rfl (fun w hSw => ?_) ?_
  ·(try dsimp only at hSw)
   go_simp
  try simp only [P9]
  refine wpAnyH_done (by kernel_rfl) ?_ _
  refine NoPanic.normal ?_
  have hrg := HR0.out.range
  have hi0 : (Tryz.prog.info? 39).map (·.size) = some cs.length := by rw [HC.out.len]; exact Tryz.infoFold7
  have hi1 : (Tryz.prog.info? 39).map (·.size) = some cs.toArray.size := by rw [List.size_toArray]; exact hi0
  have hth2 : k3.there (w.heap.size + 1 + 1) 0 cs.toArray.size := HR2.out.there (by rw [List.size_toArray, HC.out.len, hzz]; omega)
  have hone := all_oneCell_toArray HC.out.one
  have hth3 : (k3.setCells (w.heap.size + 1 + 1) 0 cs).there (w.heap.size + 1 + 1 + 1) 0 5 := World.there_setCells (HR3.out.there (by simp)) _ _ _
  have hone5 : (#[.int .i64 0, .int .i64 0, .int .i64 0, .slice none 0 0, .int .i64 0] : Array Value).all (·.oneCell') = true := all_oneCell_toArray (cs := [.int .i64 0, .int .i64 0, .int .i64 0, .slice none 0 0, .int .i64 0]) (by simp [Value.oneCell'])
  go_wp2_with (first | (refine wpList_load_mid rfl 39 _ rfl w.heap.size 0 rfl cs _ hrg Tryz.underlying39 rfl hi0 ?_) | (refine wpList_store_mid rfl 39 _ _ rfl (w.heap.size + 1 + 1) 0 cs.toArray rfl rfl hth2 hi1 hone ?_) | (refine wpList_store_mid rfl 36 _ _ rfl (w.heap.size + 1 + 1 + 1) 0 #[.int .i64 0, .int .i64 0, .int .i64 0, .slice none 0 0, .int .i64 0] rfl rfl hth3 Tryz.infoRow7 hone5 ?_))
  refine body_world7 (fun W => Rb W (w.heap.size + 1 + 1) 39 cs ∧ Rb W (w.heap.size + 1 + 1 + 1) 36 [.int .i64 0, .int .i64 0, .int .i64 0, .slice none 0 0, .int .i64 0] ∧ Below w.heap.size w W) ⟨Rb.others (by omega) _ _ _ (HR2.out.whole (by rw [HC.out.len, hzz])), Rb.whole (Rb.others (by omega) _ _ _ HR3.out) rfl, below_sets (by omega) _ _ _ (below_sets (by omega) _ _ _ hb)⟩ ?_
  rintro W ⟨h2, h3, hbW⟩
  refine bodyPost_ret (v := .tuple #[.agg cs.toArray, .agg #[.int .i64 0, .int .i64 0, .int .i64 0, .slice none 0 0, .int .i64 0], .bool false]) ?_ rfl ⟨rfl, hbW⟩
  exact results_cct (a := 4) (b := 5) (t := 6) Tryz.results10 rfl rfl rfl (run_loadVar_mid W (w.heap.size + 1 + 1) 0 _ cs _ h2.range Tryz.underlying39 rfl hi0) (run_loadVar_mid W (w.heap.size + 1 + 1 + 1) 0 _ [.int .i64 0, .int .i64 0, .int .i64 0, .slice none 0 0, .int .i64 0] _ h3.range Tryz.underlying36 rfl Tryz.infoRow7)
 ·have hm : (1 ≤ bc ∧ bc ≤ 5) ∧ 1 ≤ bq ∧ bq ≤ 1099511627776 := by
   have h9 := HX.out
   unfold mayB at h9
   simp only [Bool.and_eq_true, decide_eq_true_eq] at h9
   omega
  obtain ⟨⟨hc1, hc5⟩, hq1, hq2⟩ := hm
  obtain ⟨n, rfl⟩ : ∃ n : Nat, bc = (n : Int) := ⟨bc.toNat, by omega⟩
  obtain ⟨L, hL⟩ : ∃ L, f.last n = L := ⟨_, rfl⟩
  have hL0 : 0 ≤ L ∧ L ≤ 1000000000000000 := by rw [← hL]; exact HFO.out.2.1 n
  have hn6 : n < 6 := by omega
  have hqc : cs[2 + n]? = some (.int .i64 L) := by rw [← hL]; exact HC.out.last n hn6
  have hwL : IntKind.i64.wrap (L + 1) = L + 1 := by rw [IntKind.wrap_i64]; omega
  have hn0 : ¬ (n : Int) < 0 := by omega
  have hn7 : (n : Int) < 6 := by omega
  have hn8 : ¬ 6 ≤ n := by omega
  have hnb : nextB f ⟨(n : Int), bq, bo⟩ = (bq == L + 1) := by unfold nextB; rw [HX.out]; show (true && bq == f.last (n : Int).toNat + 1) = _; rw [Int.toNat_natCast, hL]; rfl
  by_cases hq : bq = L + 1
  ·have hn : nextB f ⟨(n : Int), bq, bo⟩ = true := by rw [hnb, hq]; exact beq_self_eq_true _
   have hqb : (bq != L + 1) = false := by rw [hq]; simp
   have HQB := hid hq; clear hq
   refine next_yes hn ?_
   go_enter Tryz.func10, Tryz.ntmps10
   go_wp2_with fail
   refine wp_world (fun W => ∃ z : List Value, z.length = 38 ∧ NoStr z ∧ Rb W (w.heap.size) 39 cs ∧ Rb W (w.heap.size + 1) 33 [.int .i64 (n : Int), .int .i64 bq, .slice At bo.length ct] ∧ Rb W (w.heap.size + 1 + 1) 39 z ∧ Rb W (w.heap.size + 1 + 1 + 1) 36 [.int .i64 0, .int .i64 0, .int .i64 0, .slice none 0 0, .int .i64 0] ∧ Below w.heap.size w W ∧ w.heap.size + 4 ≤ W.heap.size) (four_is w cs [.int .i64 (n : Int), .int .i64 bq, .slice At bo.length ct] _ [.int .i64 0, .int .i64 0, .int .i64 0, .slice none 0 0, .int .i64 0] 39 33 39 36 38 rfl (noStr_of (by intro v hv s e; subst e; simp at hv))) ?_
   rintro k1 ⟨zz, hzz, hzn, hr0, hr1, hr2, hr3, hb, hz4⟩
   have HR0 := hid hr0; clear hr0
   have HR1 := hid hr1; clear hr1
   have HR2 := hid hr2; clear hr2
   have HR3 := hid hr3; clear hr3
   have b0 : k1.cell? ⟨w.heap.size + 1, 0, none⟩ = some (.int .i64 (n : Int)) := HR1.out.cell rfl
   have b1 : k1.cell? ⟨w.heap.size + 1, 1, none⟩ = some (.int .i64 bq) := HR1.out.cell rfl
   have b2 : k1.cell? ⟨w.heap.size + 1, 2, none⟩ = some (.slice At bo.length ct) := HR1.out.cell rfl
   have lt0 : w.heap.size + 1 < k1.heap.size := by omega
   have qn : k1.cell? ⟨w.heap.size, 2 + n, none⟩ = some (.int .i64 L) := HR0.out.cell hqc
   have lt1 : w.heap.size < k1.heap.size := by omega
   replace b0 : k1.drew.cell? ⟨w.heap.size + 1, 0, none⟩ = some (.int .i64 (n : Int)) := b0
   replace b1 : k1.drew.cell? ⟨w.heap.size + 1, 1, none⟩ = some (.int .i64 bq) := b1
   replace b2 : k1.drew.cell? ⟨w.heap.size + 1, 2, none⟩ = some (.slice At bo.length ct) := b2
   replace qn : k1.drew.cell? ⟨w.heap.size, 2 + n, none⟩ = some (.int .i64 L) := qn
   replace HR0 := hid (Rb.below HR0.out ((Below.refl k1.heap.size k1).drew))
   replace HR1 := hid (Rb.below HR1.out ((Below.refl k1.heap.size k1).drew))
   replace HR2 := hid (Rb.below HR2.out ((Below.refl k1.heap.size k1).drew))
   replace HR3 := hid (Rb.below HR3.out ((Below.refl k1.heap.size k1).drew))
   refine wp_region_noPanic ?_
   refine wp_region_held_drew (S := fun W => W.cell? ⟨w.heap.size + 1, 0, none⟩ = some (.int .i64 (n : Int)) ∧ W.cell? ⟨w.heap.size + 1, 1, none⟩ = some (.int .i64 bq) ∧ W.cell? ⟨w.heap.size + 1, 2, none⟩ = some (.slice At bo.length ct) ∧ W.cell? ⟨w.heap.size, 2 + n, none⟩ = some (.int .i64 L)) (by kernel_rfl) ?_ (fun hHeld => ?_)
   ·exact ⟨b0, b1, b2, qn⟩
   replace hb : Below w.heap.size w k1.drew := hb.drew
   replace lt0 : w.heap.size + 1 < k1.drew.heap.size := lt0
   replace lt1 : w.heap.size < k1.drew.heap.size := lt1
   have hzd : k1.heap.size ≤ k1.drew.heap.size := Nat.le_refl _
   generalize k1.drew = k2 at *
   refine tk9 0 (.agg #[.int .i64 (n : Int), .int .i64 bq, .slice At bo.length ct]) rfl (fun w hSw => ?_) ?_
   ·(try dsimp only at hSw)
    go_simp
   try simp only [P9]
   refine wpAnyH_ready (rs := [1]) (by kernel_rfl) (by simp) ?_
   refine AllReadyH.cons (o := _) rfl (fun K hK => ?_) (AllReadyH.nil)
   go_simp
   go_at_call 28
   refine (rmayBatch_is B _ ⟨(n : Int), bq, bo⟩ true _ ⟨_, rfl, ops_below HT.out hb hB⟩ (Nat.le_trans hB hb.size) HOK.out hl HX.out).mono ?_
   rintro e k3 ⟨rfl, h⟩
   have hk : Below k2.heap.size k2 k3 := HK9 h
   have hz := h.size
   try simp at hz
   replace b0 := (hk.cell LT9).trans b0
   replace b1 := (hk.cell LT9).trans b1
   replace b2 := (hk.cell LT9).trans b2
   replace qn := (hk.cell LT9).trans qn
   replace HR0 := hid (Rb.below HR0.out hk)
   replace HR1 := hid (Rb.below HR1.out hk)
   replace HR2 := hid (Rb.below HR2.out hk)
   replace HR3 := hid (Rb.below HR3.out hk)
   replace hb : Below w.heap.size w k3 := hb.trans (hk.mono hb.size)
   have lt0 : w.heap.size + 1 < k3.heap.size := LT9
   have lt1 : w.heap.size < k3.heap.size := LT9
   clear h hk
   try dsimp only
   refine hK.out _ _ ?_ (fun hHeld => ?_)
   ·exact ⟨b0, b1, b2, qn⟩
   clear hK K
   try simp only [P9]
   refine tk9 2 (.bool false) rfl (fun w hSw => ?_) ?_
   ·(try dsimp only at hSw)
    go_simp
   try simp only [P9]
   refine tk9 3 (.bool false) rfl (fun w hSw => ?_) ?_
   ·(try dsimp only at hSw)
    go_simp
   try simp only [P9]
   refine tk9 4 (.pointer (some ⟨w.heap.size + 1, 1, none⟩)) rfl (fun w hSw => ?_) ?_
   ·(try dsimp only at hSw)
    go_simp
   try simp only [P9]
   refine tk9 5 (.int .i64 bq) rfl (fun w hSw => ?_) ?_
   ·(try dsimp only at hSw)
    go_simp
   try simp only [P9]
   refine tk9 6 (.pointer (some ⟨w.heap.size + 1, 0, none⟩)) rfl (fun w hSw => ?_) ?_
   ·(try dsimp only at hSw)
    go_simp
   try simp only [P9]
   refine tk9 7 (.int .i64 (n : Int)) rfl (fun w hSw => ?_) ?_
   ·(try dsimp only at hSw)
    go_simp
   try simp only [P9]
   refine tk9 8 (.pointer (some ⟨w.heap.size, 2, none⟩)) rfl (fun w hSw => ?_) ?_
   ·(try dsimp only at hSw)
    go_simp
   try simp only [P9]
   refine tk9 9 (.pointer (some ⟨w.heap.size, 2 + n, none⟩)) rfl (fun w hSw => ?_) ?_
   ·(try dsimp only at hSw)
    go_simp
   try simp only [P9]
   refine tk9 10 (.int .i64 L) rfl (fun w hSw => ?_) ?_
   ·(try dsimp only at hSw)
    go_simp
   try simp only [P9]
   refine tk9 11 (.int .i64 (L + 1)) rfl (fun w hSw => ?_) ?_
   ·(try dsimp only at hSw)
    go_simp
   try simp only [P9]
   refine tk9 12 (.bool false) rfl (fun w hSw => ?_) ?_
   ·(try dsimp only at hSw)
    go_simp
   try simp only [P9]
   refine tk9 13 (.bool false) rfl (fun w hSw => ?_) ?_
   ·(try dsimp only at hSw)
    go_simp
   try simp only [P9]
   refine wpAnyH_done (by kernel_rfl) ?_ _
   refine NoPanic.normal ?_
   obtain ⟨ds, hds, hprs⟩ := HC.out.doc
   obtain ⟨Ad, cd, rfl, hpr9⟩ := id hprs
   clear hpr9
   have HPR := hid hprs; clear hprs
   have q0 : k3.cell? ⟨w.heap.size, 0, none⟩ = some (.int .i64 f.place) := HR0.out.cell HC.out.place
   have q1 : k3.cell? ⟨w.heap.size, 1, none⟩ = some (.slice Ad f.d.length cd) := HR0.out.cell hds
   go_wp2_with fail
   refine (rapply_any B _ _ f.d bo _ ⟨_, rfl, HPR.out.keep hb hB⟩ (ops_below HT.out hb hB) (Nat.le_trans hB hb.size) HFO.out.2.2.1 HFO.out.2.2.2 HOK.out.2.2).mono ?_
   rintro e k4 ⟨u9, rfl, hp9, h⟩
   have hk : Below k3.heap.size k3 k4 := HK9 h
   have hz := h.size
   try simp at hz
   replace b0 := (hk.cell LT9).trans b0
   replace b1 := (hk.cell LT9).trans b1
   replace b2 := (hk.cell LT9).trans b2
   replace qn := (hk.cell LT9).trans qn
   replace q0 := (hk.cell LT9).trans q0
   replace q1 := (hk.cell LT9).trans q1
   replace HR0 := hid (Rb.below HR0.out hk)
   replace HR1 := hid (Rb.below HR1.out hk)
   replace HR2 := hid (Rb.below HR2.out hk)
   replace HR3 := hid (Rb.below HR3.out hk)
   replace hb : Below w.heap.size w k4 := hb.trans (hk.mono hb.size)
   have lt0 : w.heap.size + 1 < k4.heap.size := LT9
   have lt1 : w.heap.size < k4.heap.size := LT9
   obtain ⟨d2, hd2⟩ : ∃ d, dApply f.d bo = d := ⟨_, rfl⟩
   obtain ⟨d3, e3⟩ := d2
   rw [hd2] at hp9 ⊢
   simp only at hp9 ⊢
   obtain ⟨Au, cu, rfl, hpu9⟩ := id hp9
   clear hpu9
   have HP2 := hid hp9; clear hp9
   have HD2 := hid hd2; clear hd2
   clear h hk
   have hlen : ∀ j, j < 38 → ∃ x, cs[j]? = some x := fun j hj => ⟨_, List.getElem?_eq_getElem (by rw [HC.out.len]; exact hj)⟩
   have z0 := HR0.out.frz 0
   have z1 := HR0.out.frz 1
   have zn := HR0.out.frz (2 + n)
   have hfp := HFO.out.1
   have hwp : IntKind.i64.wrap (f.place + 1) = f.place + 1 := by rw [IntKind.wrap_i64]; omega
   have hwp2 : wrap64 (f.place + 1) = f.place + 1 := by first | (unfold wrap64; omega) | (simp [wrap64]; omega)
   go_upto_region 8 with fail
   obtain ⟨GR, hGR⟩ : ∃ G, k4.heap.size + 1 = G := ⟨_, rfl⟩
   have hks : w.heap.size + 4 ≤ k4.heap.size := by omega
   have hal := fun (W : World) (o p : Obj) => (below_two W o p)
   refine wp_world (fun W => Rb W (w.heap.size) 39 (((cs.set 1 (.slice Au d3.length cu)).set 0 (.int .i64 (f.place + 1))).set (2 + n) (.int .i64 bq)) ∧ Rb W (w.heap.size + 1) 33 [.int .i64 (n : Int), .int .i64 bq, .slice At bo.length ct] ∧ Rb W (w.heap.size + 1 + 1) 39 zz ∧ Rb W (w.heap.size + 1 + 1 + 1) 36 [.int .i64 0, .int .i64 0, .int .i64 0, .slice none 0 0, .int .i64 0] ∧ Rb W GR 36 [.int .i64 (f.place + 1), .int .i64 (n : Int), .int .i64 bq, .slice At bo.length ct, .int .i64 (e3 : Int)] ∧ Below w.heap.size w W ∧ k4.heap.size + 2 ≤ W.heap.size ∧ Prs W W.heap.size (.slice Au d3.length cu) d3) ⟨Rb.below (Rb.below (((HR0.out.set _ _).set _ _).set _ _) (below_one _ _)) (below_one _ _), Rb.below (Rb.below (((HR1.out.other _ _ (by omega)).other _ _ (by omega)).other _ _ (by omega)) (below_one _ _)) (below_one _ _), Rb.below (Rb.below (((HR2.out.other _ _ (by omega)).other _ _ (by omega)).other _ _ (by omega)) (below_one _ _)) (below_one _ _), Rb.below (Rb.below (((HR3.out.other _ _ (by omega)).other _ _ (by omega)).other _ _ (by omega)) (below_one _ _)) (below_one _ _), ?nr, ?nb, (by simp), ?np⟩ ?_
   case nr => exact Rb.new_at _ _ _ _ (by rw [← hGR]; simp)
   case nb =>
    repeat' (first | with_reducible exact hb | (with_reducible refine Below.alloc ?_ ?_ _) | (with_reducible refine Below.setCell ?_ ?_ _) | exact LT9)
   case np =>
    have n1 := HC.out.nos.set 1 (u := .slice Au d3.length cu) (fun s e => by cases e)
    have n2 := n1.set 0 (u := .int .i64 (f.place + 1)) (fun s e => by cases e)
    have p1 := prs_row (j := 1) (u := .slice Au d3.length cu) HP2.out HR0.out HC.out.nos
    have p2 := prs_row (j := 0) (u := .int .i64 (f.place + 1)) p1 (HR0.out.set _ _) n1
    have p3 := prs_row (j := 2 + n) (u := .int .i64 bq) p2 ((HR0.out.set _ _).set _ _) n2
    refine Prs.more (Prs.keep (C := k4.heap.size) p3 ?_ (Nat.le_refl _)) LT9
    exact ((Below.refl _ _).alloc LT9 _).alloc LT9 _
   clear HR0 HR1 HR2 HR3 HP2 q0 q1 qn b0 b1 b2 z0 z1 zn hb
   rintro k7 ⟨hr0, hr1, hr2, hr3, hrr, hb, hz7, hpr⟩
   have HR0 := hid hr0; clear hr0
   have HR1 := hid hr1; clear hr1
   have HR2 := hid hr2; clear hr2
   have HR3 := hid hr3; clear hr3
   have HRR := hid hrr; clear hrr
   have HP2 := hid hpr; clear hpr
   have b0 : k7.cell? ⟨w.heap.size + 1, 0, none⟩ = some (.int .i64 (n : Int)) := HR1.out.cell rfl
   have r0 : k7.cell? ⟨GR, 0, none⟩ = some (.int .i64 (f.place + 1)) := HRR.out.cell rfl
   have r1 : k7.cell? ⟨GR, 1, none⟩ = some (.int .i64 (n : Int)) := HRR.out.cell rfl
   have r2 : k7.cell? ⟨GR, 2, none⟩ = some (.int .i64 bq) := HRR.out.cell rfl
   have r3 : k7.cell? ⟨GR, 3, none⟩ = some (.slice At bo.length ct) := HRR.out.cell rfl
   have r4 : k7.cell? ⟨GR, 4, none⟩ = some (.int .i64 (e3 : Int)) := HRR.out.cell rfl
   have hth : k7.there (w.heap.size) (8 + n * 5) 5 := HR0.out.there (by simp [HC.out.len]; omega)
   have hone5 : (#[.int .i64 (f.place + 1), .int .i64 (n : Int), .int .i64 bq, .slice At bo.length ct, .int .i64 (e3 : Int)] : Array Value).all (·.oneCell') = true := all_oneCell_toArray (cs := [.int .i64 (f.place + 1), .int .i64 (n : Int), .int .i64 bq, .slice At bo.length ct, .int .i64 (e3 : Int)]) (by simp [Value.oneCell'])
   rw [hGR]
   go_upto_region 9 with (refine wpList_store_mid rfl 36 _ _ rfl (w.heap.size) (8 + n * 5) #[.int .i64 (f.place + 1), .int .i64 (n : Int), .int .i64 bq, .slice At bo.length ct, .int .i64 (e3 : Int)] rfl rfl hth Tryz.infoRow7 hone5 ?_)
   obtain ⟨c4, hc4⟩ : ∃ c, nextCs cs (.slice Au d3.length cu) (f.place + 1) n bq (.slice At bo.length ct) e3 = c := ⟨_, rfl⟩
   have hsets : ∀ x ∈ ([.int .i64 (f.place + 1), .int .i64 (n : Int), .int .i64 bq, .slice At bo.length ct, .int .i64 (e3 : Int)] : List Value), ∀ s, x ≠ .string s := fun v hv s => by
    simp at hv
    rcases hv with rfl | rfl | rfl | rfl | rfl <;> (intro e; cases e)
   refine wp_world (fun W => Rb W (w.heap.size) 39 c4 ∧ Rb W (w.heap.size + 1 + 1) 39 zz ∧ Rb W (w.heap.size + 1 + 1 + 1) 36 [.int .i64 0, .int .i64 0, .int .i64 0, .slice none 0 0, .int .i64 0] ∧ Rb W GR 36 [.int .i64 (f.place + 1), .int .i64 (n : Int), .int .i64 bq, .slice At bo.length ct, .int .i64 (e3 : Int)] ∧ Below w.heap.size w W ∧ k7.heap.size ≤ W.heap.size ∧ Prs W k7.heap.size (.slice Au d3.length cu) d3) ⟨?m0, Rb.others (by omega) _ _ _ HR2.out, Rb.others (by omega) _ _ _ HR3.out, Rb.others (by omega) _ _ _ HRR.out, below_sets (Nat.le_refl _) _ _ _ hb, ?ms, ?mp⟩ ?_
   case m0 => rw [← hc4]; exact Rb.sets _ _ _ _ HR0.out
   case ms => exact (below_sets (B := w.heap.size) (w0 := k7) (g := w.heap.size) (Nat.le_refl _) _ _ _ (Below.refl _ _)).size
   case mp => exact prs_rows _ _ _ _ HP2.out HR0.out (((HC.out.nos.set _ (fun s e => by cases e)).set _ (fun s e => by cases e)).set _ (fun s e => by cases e)) hsets
   clear HR0 HR1 HR2 HR3 HRR HP2 b0 r0 r1 r2 r3 r4 hth hb
   rintro k8 ⟨hr0, hr2, hr3, hrr, hb, hz8, hpr⟩
   have HP2 := hid hpr; clear hpr
   have hold9 := fun (W : World) (hW : Below w.heap.size w W) c (hc : c < 6) s (h : Ops w B s (f.told c).b.ops) => (show Ops W B s (f.told c).b.ops from h.keep hW hB)
   have hf8 := foC_next (w' := k8) (C := k8.heap.size) (bq := bq) HC.out hn6 HD2.out (HP2.out.more hz8) (Ops.keep HT.out hb hB |> fun h => by
    obtain ⟨A, c, hv, hc, hh⟩ := h
    exact ⟨A, c, hv, hc, fun h0 => by obtain ⟨g, o, hA, hg, hx⟩ := hh h0; exact ⟨g, o, hA, Nat.lt_of_lt_of_le hg (Nat.le_trans hB hb.size), hx⟩⟩) (fun c hc s h => by
    obtain ⟨A, c', hv, hc', hh⟩ := hold9 k8 hb c hc s h
    exact ⟨A, c', hv, hc', fun h0 => by obtain ⟨g, o, hA, hg, hx⟩ := hh h0; exact ⟨g, o, hA, Nat.lt_of_lt_of_le hg (Nat.le_trans hB hb.size), hx⟩⟩)
   rw [hc4] at hf8
   have hl4 := hf8.len
   have hone := all_oneCell_toArray hf8.one
   have hnos4 := hf8.nos
   clear hf8
   have HC4 := hid hc4; clear hc4
   have hi4 : (Tryz.prog.info? 39).map (·.size) = some c4.length := by rw [hl4]; exact Tryz.infoFold7
   have hi5 : (Tryz.prog.info? 39).map (·.size) = some c4.toArray.size := by rw [List.size_toArray]; exact hi4
   have HR2 := hid hr2; clear hr2
   have HR3 := hid hr3; clear hr3
   have hns4 : ∀ x ∈ c4, ∀ s, x ≠ .string s := fun x hx s e => by
    obtain ⟨i, hi, rfl⟩ := List.getElem_of_mem hx
    exact hnos4 i s (by rw [List.getElem?_eq_getElem hi, e])
   replace HR2 := hid (Rb.below HR2.out ((Below.refl k8.heap.size k8).drew))
   replace HR3 := hid (Rb.below HR3.out ((Below.refl k8.heap.size k8).drew))
   replace HP2 := hid (Prs.keep HP2.out ((Below.refl k8.heap.size k8).drew) hz8)
   have hr0 : Rb k8.drew (w.heap.size) 39 c4 := hr0
   have hrr : Rb k8.drew GR 36 [.int .i64 (f.place + 1), .int .i64 (n : Int), .int .i64 bq, .slice At bo.length ct, .int .i64 (e3 : Int)] := hrr
   refine wp_region_noPanic ?_
   refine wp_region_held_drew (S := fun W => Rb W (w.heap.size) 39 c4 ∧ Rb W GR 36 [.int .i64 (f.place + 1), .int .i64 (n : Int), .int .i64 bq, .slice At bo.length ct, .int .i64 (e3 : Int)]) (by kernel_rfl) ?_ (fun hHeld => ?_)
   ·exact ⟨hr0, hrr⟩
   replace hb : Below w.heap.size w k8.drew := hb.drew
   have hzd : k8.heap.size ≤ k8.drew.heap.size := Nat.le_refl _
   generalize k8.drew = k9 at *
   refine tk8 (i := 0) (oi := { dst := some 56, op := Op.load 39 (Operand.tmp 2), type := 39, pos := "ref.go:28", after := #[], guard := none }) (v := .agg c4.toArray) (yieldsIf_load_mid (by rfl) 39 _ rfl (w.heap.size) 0 rfl c4 _ (fun w h => h.1.range) Tryz.underlying39 rfl hi4) ?_
   try simp only [P9]
   refine tk8 (i := 1) (oi := { dst := some 57, op := Op.load 36 (Operand.tmp 9), type := 36, pos := "ref.go:28", after := #[{ on := 2, ground := Ground.gcOnly Departure.lateStores }], guard := none }) (v := .agg #[.int .i64 (f.place + 1), .int .i64 (n : Int), .int .i64 bq, .slice At bo.length ct, .int .i64 (e3 : Int)]) (yieldsIf_load_mid (by rfl) 36 _ rfl GR 0 rfl [.int .i64 (f.place + 1), .int .i64 (n : Int), .int .i64 bq, .slice At bo.length ct, .int .i64 (e3 : Int)] _ (fun w h => h.2.range) Tryz.underlying36 rfl Tryz.infoRow7) ?_
   try simp only [P9]
   refine wpAnyH_ready (rs := [2]) (by kernel_rfl) (by simp) ?_
   refine AllReadyH.cons (o := _) rfl (fun K hK => ?_) (AllReadyH.nil)
   rw [if_pos (by rfl)]
   refine wp_store_mid 39 _ _ rfl (w.heap.size + 1 + 1) 0 c4.toArray rfl rfl (HR2.out.there (by rw [List.size_toArray, hl4, hzz]; omega)) hi5 hone ?_
   obtain ⟨k10, hk9⟩ : ∃ x, k9.setCells (w.heap.size + 1 + 1) 0 c4 = x := ⟨_, rfl⟩
   replace HP2 := hid (prs_rows c4 0 _ _ HP2.out HR2.out hzn hns4)
   replace HR2 := hid (HR2.out.whole (vs := c4) (by rw [hl4, hzz]))
   replace HR3 := hid (Rb.others (g' := w.heap.size + 1 + 1) (by omega) c4 0 _ HR3.out)
   have hz9 : k9.heap.size ≤ k10.heap.size := by rw [← hk9]; exact (below_sets (B := w.heap.size) (w0 := k9) (g := w.heap.size + 1 + 1) (by omega) _ _ _ (Below.refl _ _)).size
   replace hb : Below w.heap.size w k10 := by rw [← hk9]; exact below_sets (by omega) _ _ _ hb
   replace hr0 : Rb k10 (w.heap.size) 39 c4 := by rw [← hk9]; exact Rb.others (by omega) _ _ _ hr0
   replace hrr : Rb k10 GR 36 [.int .i64 (f.place + 1), .int .i64 (n : Int), .int .i64 bq, .slice At bo.length ct, .int .i64 (e3 : Int)] := by rw [← hk9]; exact Rb.others (by omega) _ _ _ hrr
   show K _ (k9.setCells (w.heap.size + 1 + 1) 0 c4)
   rw [hk9] at HR2 HR3 HP2 ⊢
   clear hk9
   replace hz8 : k7.heap.size ≤ k10.heap.size := by omega
   clear hz9
   try dsimp only
   refine hK.out _ _ ?_ (fun hHeld => ?_)
   ·exact ⟨hr0, hrr⟩
   clear hK K
   try simp only [P9]
   refine wpAnyH_ready (rs := [3]) (by kernel_rfl) (by simp) ?_
   refine AllReadyH.cons (o := _) rfl (fun K hK => ?_) (AllReadyH.nil)
   rw [if_pos (by rfl)]
   refine wp_store_mid 36 _ _ rfl (w.heap.size + 1 + 1 + 1) 0 #[.int .i64 (f.place + 1), .int .i64 (n : Int), .int .i64 bq, .slice At bo.length ct, .int .i64 (e3 : Int)] rfl rfl (HR3.out.there (by simp)) Tryz.infoRow7 hone5 ?_
   obtain ⟨k11, hk9⟩ : ∃ x, k10.setCells (w.heap.size + 1 + 1 + 1) 0 [.int .i64 (f.place + 1), .int .i64 (n : Int), .int .i64 bq, .slice At bo.length ct, .int .i64 (e3 : Int)] = x := ⟨_, rfl⟩
   replace HP2 := hid (prs_rows [.int .i64 (f.place + 1), .int .i64 (n : Int), .int .i64 bq, .slice At bo.length ct, .int .i64 (e3 : Int)] 0 _ _ HP2.out HR3.out (noStr_of (by intro v hv s e; subst e; simp at hv)) hsets)
   replace HR3 := hid (HR3.out.whole (vs := [.int .i64 (f.place + 1), .int .i64 (n : Int), .int .i64 bq, .slice At bo.length ct, .int .i64 (e3 : Int)]) rfl)
   replace HR2 := hid (Rb.others (g' := w.heap.size + 1 + 1 + 1) (by omega) [.int .i64 (f.place + 1), .int .i64 (n : Int), .int .i64 bq, .slice At bo.length ct, .int .i64 (e3 : Int)] 0 _ HR2.out)
   have hz9 : k10.heap.size ≤ k11.heap.size := by rw [← hk9]; exact (below_sets (B := w.heap.size) (w0 := k10) (g := w.heap.size + 1 + 1 + 1) (by omega) _ _ _ (Below.refl _ _)).size
   replace hb : Below w.heap.size w k11 := by rw [← hk9]; exact below_sets (by omega) _ _ _ hb
   replace hr0 : Rb k11 (w.heap.size) 39 c4 := by rw [← hk9]; exact Rb.others (by omega) _ _ _ hr0
   replace hrr : Rb k11 GR 36 [.int .i64 (f.place + 1), .int .i64 (n : Int), .int .i64 bq, .slice At bo.length ct, .int .i64 (e3 : Int)] := by rw [← hk9]; exact Rb.others (by omega) _ _ _ hrr
   show K _ (k10.setCells (w.heap.size + 1 + 1 + 1) 0 [.int .i64 (f.place + 1), .int .i64 (n : Int), .int .i64 bq, .slice At bo.length ct, .int .i64 (e3 : Int)])
   rw [hk9] at HR2 HR3 HP2 ⊢
   clear hk9
   replace hz8 : k7.heap.size ≤ k11.heap.size := by omega
   clear hz9
   try dsimp only
   refine hK.out _ _ ?_ (fun hHeld => ?_)
   ·exact ⟨hr0, hrr⟩
   clear hK K
   try simp only [P9]
   refine wpAnyH_ready (rs := [4]) (by kernel_rfl) (by simp) ?_
   refine AllReadyH.cons (o := _) rfl (fun K hK => ?_) (AllReadyH.nil)
   go_simp
   refine hK.out _ _ ?_ (fun hHeld => ?_)
   ·exact ⟨hr0, hrr⟩
   clear hK K
   try simp only [P9]
   refine wpAnyH_done (by kernel_rfl) ?_ _
   refine NoPanic.normal ?_
   have hopsk : Ops k11 k11.heap.size (.slice At bo.length ct) bo := by
    obtain ⟨A, c, hv, hc, hh⟩ := Ops.keep HT.out hb hB
    exact ⟨A, c, hv, hc, fun h0 => by obtain ⟨g, o, hA, hg, hx⟩ := hh h0; exact ⟨g, o, hA, Nat.lt_of_lt_of_le hg (Nat.le_trans hB hb.size), hx⟩⟩
   have hfk := foC_next (w' := k11) (C := k11.heap.size) (bq := bq) HC.out hn6 HD2.out (HP2.out.more hz8) hopsk (fun c hc s h => by
    obtain ⟨A, c', hv, hc', hh⟩ := hold9 k11 hb c hc s h
    exact ⟨A, c', hv, hc', fun h0 => by obtain ⟨g, o, hA, hg, hx⟩ := hh h0; exact ⟨g, o, hA, Nat.lt_of_lt_of_le hg (Nat.le_trans hB hb.size), hx⟩⟩)
   rw [HC4.out] at hfk
   have HFK := hid hfk; clear hfk
   have HOPK := hid hopsk; clear hopsk
   have hrow : RowV k11 k11.heap.size (.agg #[.int .i64 (f.place + 1), .int .i64 (n : Int), .int .i64 bq, .slice At bo.length ct, .int .i64 (e3 : Int)]) (rowOfB f ⟨(n : Int), bq, bo⟩) := by
    refine ⟨.slice At bo.length ct, ?_, HOPK.out⟩
    unfold rowOfB
    rw [HD2.out]
   have HROW := hid hrow; clear hrow
   go_wp2
   refine bodyPost_ret (v := .tuple #[.agg c4.toArray, .agg #[.int .i64 (f.place + 1), .int .i64 (n : Int), .int .i64 bq, .slice At bo.length ct, .int .i64 (e3 : Int)], .bool true]) ?_ rfl ⟨_, _, rfl, ⟨c4, rfl, HFK.out⟩, HROW.out, hb⟩
   exact results_cct (a := 4) (b := 5) (t := 6) Tryz.results10 rfl rfl rfl (run_loadVar_mid k11 (w.heap.size + 1 + 1) 0 _ c4 _ HR2.out.range Tryz.underlying39 rfl hi4) (run_loadVar_mid k11 (w.heap.size + 1 + 1 + 1) 0 _ [.int .i64 (f.place + 1), .int .i64 (n : Int), .int .i64 bq, .slice At bo.length ct, .int .i64 (e3 : Int)] _ HR3.out.range Tryz.underlying36 rfl Tryz.infoRow7)
  ·have hn : nextB f ⟨(n : Int), bq, bo⟩ = false := by rw [hnb, beq_eq_false_iff_ne]; exact hq
   have hqb : (bq != L + 1) = true := by simp [hq]
   clear hq
   refine next_no hn ?_
   go_enter Tryz.func10, Tryz.ntmps10
   go_wp2_with fail
   refine wp_world (fun W => ∃ z : List Value, z.length = 38 ∧ NoStr z ∧ Rb W (w.heap.size) 39 cs ∧ Rb W (w.heap.size + 1) 33 [.int .i64 (n : Int), .int .i64 bq, .slice At bo.length ct] ∧ Rb W (w.heap.size + 1 + 1) 39 z ∧ Rb W (w.heap.size + 1 + 1 + 1) 36 [.int .i64 0, .int .i64 0, .int .i64 0, .slice none 0 0, .int .i64 0] ∧ Below w.heap.size w W ∧ w.heap.size + 4 ≤ W.heap.size) (four_is w cs [.int .i64 (n : Int), .int .i64 bq, .slice At bo.length ct] _ [.int .i64 0, .int .i64 0, .int .i64 0, .slice none 0 0, .int .i64 0] 39 33 39 36 38 rfl (noStr_of (by intro v hv s e; subst e; simp at hv))) ?_
   rintro k1 ⟨zz, hzz, hzn, hr0, hr1, hr2, hr3, hb, hz4⟩
   have HR0 := hid hr0; clear hr0
   have HR1 := hid hr1; clear hr1
   have HR2 := hid hr2; clear hr2
   have HR3 := hid hr3; clear hr3
   have b0 : k1.cell? ⟨w.heap.size + 1, 0, none⟩ = some (.int .i64 (n : Int)) := HR1.out.cell rfl
   have b1 : k1.cell? ⟨w.heap.size + 1, 1, none⟩ = some (.int .i64 bq) := HR1.out.cell rfl
   have b2 : k1.cell? ⟨w.heap.size + 1, 2, none⟩ = some (.slice At bo.length ct) := HR1.out.cell rfl
   have lt0 : w.heap.size + 1 < k1.heap.size := by omega
   have qn : k1.cell? ⟨w.heap.size, 2 + n, none⟩ = some (.int .i64 L) := HR0.out.cell hqc
   have lt1 : w.heap.size < k1.heap.size := by omega
   replace b0 : k1.drew.cell? ⟨w.heap.size + 1, 0, none⟩ = some (.int .i64 (n : Int)) := b0
   replace b1 : k1.drew.cell? ⟨w.heap.size + 1, 1, none⟩ = some (.int .i64 bq) := b1
   replace b2 : k1.drew.cell? ⟨w.heap.size + 1, 2, none⟩ = some (.slice At bo.length ct) := b2
   replace qn : k1.drew.cell? ⟨w.heap.size, 2 + n, none⟩ = some (.int .i64 L) := qn
   replace HR0 := hid (Rb.below HR0.out ((Below.refl k1.heap.size k1).drew))
   replace HR1 := hid (Rb.below HR1.out ((Below.refl k1.heap.size k1).drew))
   replace HR2 := hid (Rb.below HR2.out ((Below.refl k1.heap.size k1).drew))
   replace HR3 := hid (Rb.below HR3.out ((Below.refl k1.heap.size k1).drew))
   refine wp_region_noPanic ?_
   refine wp_region_held_drew (S := fun W => W.cell? ⟨w.heap.size + 1, 0, none⟩ = some (.int .i64 (n : Int)) ∧ W.cell? ⟨w.heap.size + 1, 1, none⟩ = some (.int .i64 bq) ∧ W.cell? ⟨w.heap.size + 1, 2, none⟩ = some (.slice At bo.length ct) ∧ W.cell? ⟨w.heap.size, 2 + n, none⟩ = some (.int .i64 L)) (by kernel_rfl) ?_ (fun hHeld => ?_)
   ·exact ⟨b0, b1, b2, qn⟩
   replace hb : Below w.heap.size w k1.drew := hb.drew
   replace lt0 : w.heap.size + 1 < k1.drew.heap.size := lt0
   replace lt1 : w.heap.size < k1.drew.heap.size := lt1
   have hzd : k1.heap.size ≤ k1.drew.heap.size := Nat.le_refl _
   generalize k1.drew = k2 at *
   refine tk9 0 (.agg #[.int .i64 (n : Int), .int .i64 bq, .slice At bo.length ct]) rfl (fun w hSw => ?_) ?_
   ·(try dsimp only at hSw)
    go_simp
   try simp only [P9]
   refine wpAnyH_ready (rs := [1]) (by kernel_rfl) (by simp) ?_
   refine AllReadyH.cons (o := _) rfl (fun K hK => ?_) (AllReadyH.nil)
   go_simp
   go_at_call 28
   refine (rmayBatch_is B _ ⟨(n : Int), bq, bo⟩ true _ ⟨_, rfl, ops_below HT.out hb hB⟩ (Nat.le_trans hB hb.size) HOK.out hl HX.out).mono ?_
   rintro e k3 ⟨rfl, h⟩
   have hk : Below k2.heap.size k2 k3 := HK9 h
   have hz := h.size
   try simp at hz
   replace b0 := (hk.cell LT9).trans b0
   replace b1 := (hk.cell LT9).trans b1
   replace b2 := (hk.cell LT9).trans b2
   replace qn := (hk.cell LT9).trans qn
   replace HR0 := hid (Rb.below HR0.out hk)
   replace HR1 := hid (Rb.below HR1.out hk)
   replace HR2 := hid (Rb.below HR2.out hk)
   replace HR3 := hid (Rb.below HR3.out hk)
   replace hb : Below w.heap.size w k3 := hb.trans (hk.mono hb.size)
   have lt0 : w.heap.size + 1 < k3.heap.size := LT9
   have lt1 : w.heap.size < k3.heap.size := LT9
   clear h hk
   try dsimp only
   refine hK.out _ _ ?_ (fun hHeld => ?_)
   ·exact ⟨b0, b1, b2, qn⟩
   clear hK K
   try simp only [P9]
   refine tk9 2 (.bool false) rfl (fun w hSw => ?_) ?_
   ·(try dsimp only at hSw)
    go_simp
   try simp only [P9]
   refine tk9 3 (.bool false) rfl (fun w hSw => ?_) ?_
   ·(try dsimp only at hSw)
    go_simp
   try simp only [P9]
   refine tk9 4 (.pointer (some ⟨w.heap.size + 1, 1, none⟩)) rfl (fun w hSw => ?_) ?_
   ·(try dsimp only at hSw)
    go_simp
   try simp only [P9]
   refine tk9 5 (.int .i64 bq) rfl (fun w hSw => ?_) ?_
   ·(try dsimp only at hSw)
    go_simp
   try simp only [P9]
   refine tk9 6 (.pointer (some ⟨w.heap.size + 1, 0, none⟩)) rfl (fun w hSw => ?_) ?_
   ·(try dsimp only at hSw)
    go_simp
   try simp only [P9]
   refine tk9 7 (.int .i64 (n : Int)) rfl (fun w hSw => ?_) ?_
   ·(try dsimp only at hSw)
    go_simp
   try simp only [P9]
   refine tk9 8 (.pointer (some ⟨w.heap.size, 2, none⟩)) rfl (fun w hSw => ?_) ?_
   ·(try dsimp only at hSw)
    go_simp
   try simp only [P9]
   refine tk9 9 (.pointer (some ⟨w.heap.size, 2 + n, none⟩)) rfl (fun w hSw => ?_) ?_
   ·(try dsimp only at hSw)
    go_simp
   try simp only [P9]
   refine tk9 10 (.int .i64 L) rfl (fun w hSw => ?_) ?_
   ·(try dsimp only at hSw)
    go_simp
   try simp only [P9]
   refine tk9 11 (.int .i64 (L + 1)) rfl (fun w hSw => ?_) ?_
   ·(try dsimp only at hSw)
    go_simp
   try simp only [P9]
   refine tk9 12 (.bool true) rfl (fun w hSw => ?_) ?_
   ·(try dsimp only at hSw)
    go_simp
   try simp only [P9]
   refine tk9 13 (.bool true) rfl (fun w hSw => ?_) ?_
   ·(try dsimp only at hSw)
    go_simp
   try simp only [P9]
   refine wpAnyH_done (by kernel_rfl) ?_ _
   refine NoPanic.normal ?_
   have hrg := HR0.out.range
   have hi0 : (Tryz.prog.info? 39).map (·.size) = some cs.length := by rw [HC.out.len]; exact Tryz.infoFold7
   have hi1 : (Tryz.prog.info? 39).map (·.size) = some cs.toArray.size := by rw [List.size_toArray]; exact hi0
   have hth2 : k3.there (w.heap.size + 1 + 1) 0 cs.toArray.size := HR2.out.there (by rw [List.size_toArray, HC.out.len, hzz]; omega)
   have hone := all_oneCell_toArray HC.out.one
   have hth3 : (k3.setCells (w.heap.size + 1 + 1) 0 cs).there (w.heap.size + 1 + 1 + 1) 0 5 := World.there_setCells (HR3.out.there (by simp)) _ _ _
   have hone5 : (#[.int .i64 0, .int .i64 0, .int .i64 0, .slice none 0 0, .int .i64 0] : Array Value).all (·.oneCell') = true := all_oneCell_toArray (cs := [.int .i64 0, .int .i64 0, .int .i64 0, .slice none 0 0, .int .i64 0]) (by simp [Value.oneCell'])
   go_wp2_with (first | (refine wpList_load_mid rfl 39 _ rfl w.heap.size 0 rfl cs _ hrg Tryz.underlying39 rfl hi0 ?_) | (refine wpList_store_mid rfl 39 _ _ rfl (w.heap.size + 1 + 1) 0 cs.toArray rfl rfl hth2 hi1 hone ?_) | (refine wpList_store_mid rfl 36 _ _ rfl (w.heap.size + 1 + 1 + 1) 0 #[.int .i64 0, .int .i64 0, .int .i64 0, .slice none 0 0, .int .i64 0] rfl rfl hth3 Tryz.infoRow7 hone5 ?_))
   refine body_world7 (fun W => Rb W (w.heap.size + 1 + 1) 39 cs ∧ Rb W (w.heap.size + 1 + 1 + 1) 36 [.int .i64 0, .int .i64 0, .int .i64 0, .slice none 0 0, .int .i64 0] ∧ Below w.heap.size w W) ⟨Rb.others (by omega) _ _ _ (HR2.out.whole (by rw [HC.out.len, hzz])), Rb.whole (Rb.others (by omega) _ _ _ HR3.out) rfl, below_sets (by omega) _ _ _ (below_sets (by omega) _ _ _ hb)⟩ ?_
   rintro W ⟨h2, h3, hbW⟩
   refine bodyPost_ret (v := .tuple #[.agg cs.toArray, .agg #[.int .i64 0, .int .i64 0, .int .i64 0, .slice none 0 0, .int .i64 0], .bool false]) ?_ rfl ⟨rfl, hbW⟩
   exact results_cct (a := 4) (b := 5) (t := 6) Tryz.results10 rfl rfl rfl (run_loadVar_mid W (w.heap.size + 1 + 1) 0 _ cs _ h2.range Tryz.underlying39 rfl hi0) (run_loadVar_mid W (w.heap.size + 1 + 1 + 1) 0 _ [.int .i64 0, .int .i64 0, .int .i64 0, .slice none 0 0, .int .i64 0] _ h3.range Tryz.underlying36 rfl Tryz.infoRow7)
end Go.Proofs.YtegkhkcnoahhdaaGreat
