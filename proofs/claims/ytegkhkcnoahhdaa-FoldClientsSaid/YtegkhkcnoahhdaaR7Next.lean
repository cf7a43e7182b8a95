/-
  The reference's fold of stage 7 as data, and its Next.
  The document is a good one; the operations' integers are in their ranges, there are at most 1,000.
-/
import Derived.Test.YtegkhkcnoahhdaaR7Kit
import Derived.Test.YtegkhkcnoahhdaaReApply
import Derived.Deep.Cut
set_option linter.unusedSimpArgs false
set_option linter.unusedVariables false
namespace Go.Proofs.Ytegkhkcnoahhdaa
open Go.RowKit
set_option maxRecDepth 100000

structure Fo where
  place : Int
  d : List Par
  last : Nat → Int
  told : Nat → Rw
/-- the cells cs are the fold f -/
structure FoC (w : World) (B : Nat) (cs : List Value) (f : Fo) : Prop where
  len : cs.length = 38
  place : cs[0]? = some (.int .i64 f.place)
  doc : ∃ ds, cs[1]? = some ds ∧ Prs w B ds f.d
  last : ∀ c, c < 6 → cs[2 + c]? = some (.int .i64 (f.last c))
  told : ∀ c, c < 6 → ∃ s, cs[8 + c * 5]? = some (.int .i64 (f.told c).place) ∧ cs[8 + c * 5 + 1]? = some (.int .i64 (f.told c).b.client) ∧ cs[8 + c * 5 + 2]? = some (.int .i64 (f.told c).b.seq) ∧ cs[8 + c * 5 + 3]? = some s ∧ cs[8 + c * 5 + 4]? = some (.int .i64 (f.told c).err) ∧ Ops w B s (f.told c).b.ops
  one : ∀ v ∈ cs, v.oneCell' = true
  nos : NoStr cs
/-- the value v is the fold f -/
def FoldV (w : World) (B : Nat) (v : Value) (f : Fo) : Prop := ∃ cs, v = .agg cs.toArray ∧ FoC w B cs f
def upd {α : Type} (g : Nat → α) (c : Nat) (x : α) : Nat → α := fun k => if k = c then x else g k
/-- does b come next? -/
def nextB (f : Fo) (b : Bat) : Bool := mayB b && b.seq == f.last b.client.toNat + 1
def rowOfB (f : Fo) (b : Bat) : Rw := ⟨f.place + 1, b, (dApply f.d b.ops).2⟩
def nextFo (f : Fo) (b : Bat) : Fo := ⟨f.place + 1, (dApply f.d b.ops).1, upd f.last b.client.toNat b.seq, upd f.told b.client.toNat (rowOfB f b)⟩
/-- the fold's numbers are far from the ends of their ranges -/
def Fo.ok (f : Fo) : Prop := (0 ≤ f.place ∧ f.place ≤ 1000000000000000) ∧ (∀ c, 0 ≤ f.last c ∧ f.last c ≤ 1000000000000000) ∧ f.d.length ≤ 100 ∧ ∀ p ∈ f.d, p.k.size ≤ 1000000
/-- what Next answers -/
def NextQ (f : Fo) (b : Bat) (v : Value) (w : World) (e : Ending) (w' : World) : Prop :=
  (nextB f b = false → e = .returned (.tuple #[v, .agg #[.int .i64 0, .int .i64 0, .int .i64 0, .slice none 0 0, .int .i64 0], .bool false]) ∧ Below w.heap.size w w') ∧
  (nextB f b = true → ∃ v' r', e = .returned (.tuple #[v', r', .bool true]) ∧ FoldV w' w'.heap.size v' (nextFo f b) ∧ RowV w' w'.heap.size r' (rowOfB f b) ∧ Below w.heap.size w w')
theorem next_no {f : Fo} {b : Bat} {v : Value} {w : World} {g : Nat} {args : Array Value} (hn : nextB f b = false) (h : Calls Try.prog g args w fun e w' => e = .returned (.tuple #[v, .agg #[.int .i64 0, .int .i64 0, .int .i64 0, .slice none 0 0, .int .i64 0], .bool false]) ∧ Below w.heap.size w w') : Calls Try.prog g args w (NextQ f b v w) :=
  h.mono fun e w' h => ⟨fun _ => h, fun h2 => by rw [hn] at h2; cases h2⟩
theorem next_yes {f : Fo} {b : Bat} {v : Value} {w : World} {g : Nat} {args : Array Value} (hn : nextB f b = true) (h : Calls Try.prog g args w fun e w' => ∃ v' r', e = .returned (.tuple #[v', r', .bool true]) ∧ FoldV w' w'.heap.size v' (nextFo f b) ∧ RowV w' w'.heap.size r' (rowOfB f b) ∧ Below w.heap.size w w') : Calls Try.prog g args w (NextQ f b v w) :=
  h.mono fun e w' h => ⟨fun h2 => (by rw [hn] at h2; cases h2), fun _ => h⟩
theorem mem_set {α : Type} {l : List α} {j : Nat} {u v : α} (h : v ∈ l.set j u) : v = u ∨ v ∈ l := by
  obtain ⟨i, hi, rfl⟩ := List.getElem_of_mem h
  by_cases hij : j = i
  · subst hij; left; simp
  · right; rw [List.getElem_set_ne hij]; exact List.getElem_mem ..
theorem mem_setL {v : Value} : ∀ (vs : List Value) (cs : List Value) (o : Nat), v ∈ setL cs o vs → v ∈ vs ∨ v ∈ cs
  | [], _, _, h => .inr h
  | x :: r, cs, o, h => by
    rcases mem_setL r _ (o + 1) h with h | h
    · exact .inl (by simp [h])
    · rcases mem_set h with rfl | h
      · exact .inl (by simp)
      · exact .inr h
theorem setL_far : ∀ (vs : List Value) (cs : List Value) (o j : Nat), o + vs.length ≤ j → (setL cs o vs)[j]? = cs[j]?
  | [], _, _, _, _ => rfl
  | v :: r, cs, o, j, h => by
    unfold setL
    simp at h
    rw [setL_far r _ (o + 1) j (by omega), List.getElem?_set_ne (by omega)]
/-- the cells behind Next -/
def nextCs (cs : List Value) (u : Value) (p : Int) (n : Nat) (bq : Int) (t : Value) (e3 : Nat) : List Value :=
  setL (((cs.set 1 u).set 0 (.int .i64 p)).set (2 + n) (.int .i64 bq)) (8 + n * 5) [.int .i64 p, .int .i64 (n : Int), .int .i64 bq, t, .int .i64 (e3 : Int)]
theorem foC_next {w w' : World} {B C : Nat} {cs : List Value} {f : Fo} {n : Nat} {bq : Int} {bo : List Opn} {d3 : List Par} {e3 cu ct : Nat} {Au At : Option Addr} (h : FoC w B cs f) (hn : n < 6) (hd : dApply f.d bo = (d3, e3)) (hp : Prs w' C (.slice Au d3.length cu) d3) (ht : Ops w' C (.slice At bo.length ct) bo) (hold : ∀ c, c < 6 → ∀ s, Ops w B s (f.told c).b.ops → Ops w' C s (f.told c).b.ops) :
    FoC w' C (nextCs cs (.slice Au d3.length cu) (f.place + 1) n bq (.slice At bo.length ct) e3) (nextFo f ⟨(n : Int), bq, bo⟩) := by
  have hl := h.len
  have hN : (nextFo f ⟨(n : Int), bq, bo⟩) = ⟨f.place + 1, d3, upd f.last n bq, upd f.told n ⟨f.place + 1, ⟨(n : Int), bq, bo⟩, (e3 : Int)⟩⟩ := by unfold nextFo rowOfB; rw [hd]; simp
  rw [hN]
  unfold nextCs
  refine ⟨by rw [setL_len]; simp [hl], ?_, ⟨.slice Au d3.length cu, ?_, hp⟩, fun c hc => ?_, fun c hc => ?_, fun v hv => ?_, ?_⟩
  · rw [setL_out _ _ _ _ (by omega), List.getElem?_set_ne (by omega), List.getElem?_set_self (by simp; omega)]
  · rw [setL_out _ _ _ _ (by omega), List.getElem?_set_ne (by omega), List.getElem?_set_ne (by omega), List.getElem?_set_self (by omega)]
  · rw [setL_out _ _ _ _ (by omega)]
    by_cases hcn : c = n
    · subst hcn
      rw [List.getElem?_set_self (by simp; omega)]; simp [upd]
    · rw [List.getElem?_set_ne (by omega), List.getElem?_set_ne (by omega), List.getElem?_set_ne (by omega), h.last c hc]; simp [upd, hcn]
  · by_cases hcn : c = n
    · subst hcn
      have hi := fun j (hj : j < 5) => setL_in [.int .i64 (f.place + 1), .int .i64 (c : Int), .int .i64 bq, .slice At bo.length ct, .int .i64 (e3 : Int)] (((cs.set 1 (.slice Au d3.length cu)).set 0 (.int .i64 (f.place + 1))).set (2 + c) (.int .i64 bq)) (8 + c * 5) j (by simp; omega) (by simpa using hj)
      refine ⟨.slice At bo.length ct, ?_, ?_, ?_, ?_, ?_, ?_⟩
      · have := hi 0 (by omega); simpa [upd] using this
      · have := hi 1 (by omega); simpa [upd] using this
      · have := hi 2 (by omega); simpa [upd] using this
      · have := hi 3 (by omega); simpa [upd] using this
      · have := hi 4 (by omega); simpa [upd] using this
      · simpa [upd] using ht
    · obtain ⟨s, t0, t1, t2, t3, t4, t5⟩ := h.told c hc
      have hk : ∀ j, j < 5 → (setL (((cs.set 1 (.slice Au d3.length cu)).set 0 (.int .i64 (f.place + 1))).set (2 + n) (.int .i64 bq)) (8 + n * 5) [.int .i64 (f.place + 1), .int .i64 (n : Int), .int .i64 bq, .slice At bo.length ct, .int .i64 (e3 : Int)])[8 + c * 5 + j]? = cs[8 + c * 5 + j]? := fun j hj => by
        have : (setL (((cs.set 1 (.slice Au d3.length cu)).set 0 (.int .i64 (f.place + 1))).set (2 + n) (.int .i64 bq)) (8 + n * 5) [.int .i64 (f.place + 1), .int .i64 (n : Int), .int .i64 bq, .slice At bo.length ct, .int .i64 (e3 : Int)])[8 + c * 5 + j]? = (((cs.set 1 (.slice Au d3.length cu)).set 0 (.int .i64 (f.place + 1))).set (2 + n) (.int .i64 bq))[8 + c * 5 + j]? := by
          rcases Nat.lt_or_gt_of_ne hcn with h1 | h1
          · exact setL_out _ _ _ _ (by omega)
          · exact setL_far _ _ _ _ (by simp; omega)
        rw [this, List.getElem?_set_ne (by omega), List.getElem?_set_ne (by omega), List.getElem?_set_ne (by omega)]
      have k0 := hk 0 (by omega)
      rw [Nat.add_zero] at k0
      refine ⟨s, ?_, ?_, ?_, ?_, ?_, ?_⟩
      · rw [k0, t0]; simp [upd, hcn]
      · rw [hk 1 (by omega), t1]; simp [upd, hcn]
      · rw [hk 2 (by omega), t2]; simp [upd, hcn]
      · rw [hk 3 (by omega), t3]
      · rw [hk 4 (by omega), t4]; simp [upd, hcn]
      · have := hold c hc s t5; simpa [upd, hcn] using this
  · rcases mem_setL _ _ _ hv with h1 | h1
    · simp at h1
      rcases h1 with rfl | rfl | rfl | rfl | rfl <;> rfl
    · rcases mem_set h1 with rfl | h1
      · rfl
      · rcases mem_set h1 with rfl | h1
        · rfl
        · rcases mem_set h1 with rfl | h1
          · rfl
          · exact h.one v h1
  · exact NoStr.sets _ _ _ (((h.nos.set _ (fun s e => by cases e)).set _ (fun s e => by cases e)).set _ (fun s e => by cases e)) (fun v hv s => by
      simp at hv
      rcases hv with rfl | rfl | rfl | rfl | rfl <;> (intro e; cases e))
theorem Try.infoRow7 : (Try.prog.info? 32).map (·.size) = some 5 := by kernel_rfl
end Go.Proofs.Ytegkhkcnoahhdaa
