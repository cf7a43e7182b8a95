/-
  A disk as the laws hold it: all its blocks lie from some block on; what is asked of no disk.
  There are no conditions beyond those that each lemma names.
-/
import Derived.Test.YtbdengcblncfmaaD9Crash
import Derived.Test.YtbdengcblncfmaaD9Names
set_option linter.unusedSimpArgs false
set_option linter.unusedVariables false
namespace Go.Proofs.Ytbdengcblncfmaa
open Go.RowKit
set_option maxRecDepth 100000

/-- a disk whose blocks lie from block B on -/
def DK (B : Nat) (w : World) (g : Nat) (l : List Fil) (c : Nat) : Prop := ∃ S, PD w S g l c ∧ ∀ k, S k → B ≤ k
theorem DK.below {B g c : Nat} {l : List Fil} {w w' : World} (h : DK B w g l c) (hb : Below w.heap.size w w') : DK B w' g l c := by
  obtain ⟨S, h1, h2⟩ := h
  exact ⟨S, h1.below hb, h2⟩
theorem DK.good {B g c : Nat} {l : List Fil} {w : World} (h : DK B w g l c) : Sorted9 l ∧ ∀ f ∈ l, Good9 f := by
  obtain ⟨S, h1, h2⟩ := h
  exact h1.good
/-- a disk stands where what lies below it is written -/
theorem DK.set {B g c j k : Nat} {l : List Fil} {w : World} {u : Value} (h : DK B w g l c) (hk : k < B) : DK B (w.setCell ⟨k, j, none⟩ u) g l c := by
  obtain ⟨S, h1, h2⟩ := h
  refine ⟨S, h1.off (T := fun i => i = k) ((Off.refl _ w).set (.inl rfl)) (fun i hi e => ?_), h2⟩
  have := h2 i hi
  omega
theorem DK.down {B C g c : Nat} {l : List Fil} {w : World} (h : DK B w g l c) (hC : C ≤ B) : DK C w g l c := by
  obtain ⟨S, h1, h2⟩ := h
  exact ⟨S, h1, fun k hk => Nat.le_trans hC (h2 k hk)⟩
theorem did_dk {B g c : Nat} {S : Nat → Prop} {r : Int × List Fil} {w w' : World} {e : Ending} (h2 : ∀ k, S k → B ≤ k) (hB : B ≤ w.heap.size) (h : Did S g c r w e w') : e = .returned (.int .i64 r.1) ∧ DK B w' g r.2 (c + 1) ∧ Below B w w' := by
  obtain ⟨h3, h4, h5⟩ := h
  refine ⟨h3, ⟨_, h4, fun k hk => ?_⟩, h5.below h2 hB⟩
  rcases hk with hk | hk
  · exact h2 k hk
  · omega
theorem new_dk (w : World) : Calls Try.prog 11 #[] w fun e w' => e = .returned (.pointer (some ⟨w.heap.size, 0, none⟩)) ∧ DK w.heap.size w' w.heap.size [] 0 ∧ Below w.heap.size w w' := by
  refine (new9_any w).mono ?_
  rintro e w' ⟨rfl, rfl⟩
  exact ⟨rfl, ⟨_, PD.new w, fun k hk => by subst hk; exact Nat.le_refl _⟩, below_new _ _⟩
theorem app_dk {B g c : Nat} {l : List Fil} {n : ByteArray} {u : Value} {bs : List UInt8} {w : World} (h : DK B w g l c) (hB : B ≤ w.heap.size) (hn : n.size ≤ maxLen) (hc : c ≤ 1000000) (hl : l.length ≤ 100000) (hu : Byt w B u bs) (hbl : bs.length ≤ 140737486258176) (r : Int × List Fil) (hr : app9 n bs l = r) :
    Calls Try.prog 14 #[.pointer (some ⟨g, 0, none⟩), .string n, u] w fun e w' => e = .returned (.int .i64 r.1) ∧ DK B w' g r.2 (c + 1) ∧ Below B w w' := by
  subst hr
  obtain ⟨S, h1, h2⟩ := h
  refine (app9_disk S g l c n u bs w h1 hn hc hl (Safe9.of_byt hu h2 hB) hbl).mono ?_
  intro e w' h
  exact did_dk h2 hB h
theorem swap_dk {B g c : Nat} {l : List Fil} {n : ByteArray} {u : Value} {bs : List UInt8} {w : World} (h : DK B w g l c) (hB : B ≤ w.heap.size) (hn : n.size ≤ maxLen) (hc : c ≤ 1000000) (hl : l.length ≤ 100000) (hu : Byt w B u bs) (hbl : bs.length ≤ 140737486258176) (r : Int × List Fil) (hr : swap9 n bs l = r) :
    Calls Try.prog 18 #[.pointer (some ⟨g, 0, none⟩), .string n, u] w fun e w' => e = .returned (.int .i64 r.1) ∧ DK B w' g r.2 (c + 1) ∧ Below B w w' := by
  subst hr
  obtain ⟨S, h1, h2⟩ := h
  refine (swap9_disk S g l c n u bs w h1 hn hc hl (Safe9.of_byt hu h2 hB) (by omega)).mono ?_
  intro e w' h
  exact did_dk h2 hB h
theorem sync_dk {B g c : Nat} {l : List Fil} {n : ByteArray} {w : World} (h : DK B w g l c) (hB : B ≤ w.heap.size) (hn : n.size ≤ maxLen) (hc : c ≤ 1000000) (hl : l.length ≤ 100000) (r : Int × List Fil) (hr : sync9 n l = r) :
    Calls Try.prog 16 #[.pointer (some ⟨g, 0, none⟩), .string n] w fun e w' => e = .returned (.int .i64 r.1) ∧ DK B w' g r.2 (c + 1) ∧ Below B w w' := by
  subst hr
  obtain ⟨S, h1, h2⟩ := h
  refine (sync9_disk S g l c n w h1 hn hc hl).mono ?_
  intro e w' h
  exact did_dk h2 hB h
theorem loose_dk {B g c : Nat} {l : List Fil} {n : ByteArray} {w : World} (h : DK B w g l c) (hn : n.size ≤ maxLen) (x : Int) (hx : loose9 n l = x) :
    Calls Try.prog 25 #[.pointer (some ⟨g, 0, none⟩), .string n] w fun e w' => e = .returned (.int .i64 x) ∧ Below w.heap.size w w' := by
  subst hx
  obtain ⟨S, h1, h2⟩ := h
  exact loose9_disk S g l c n w h1 hn
theorem calls_dk {B g c : Nat} {l : List Fil} {w : World} (h : DK B w g l c) : Calls Try.prog 27 #[.pointer (some ⟨g, 0, none⟩)] w fun e w' => e = .returned (.int .i64 (c : Nat)) ∧ Below w.heap.size w w' := by
  obtain ⟨S, h1, h2⟩ := h
  refine (calls9_any S g l c w h1).mono ?_
  rintro e w' ⟨rfl, rfl⟩
  exact ⟨rfl, Below.refl _ _⟩
theorem read_dk_no {B g c : Nat} {l : List Fil} {n : ByteArray} {w : World} (h : DK B w g l c) (hn : n.size ≤ maxLen) (hg : getF n l = none) :
    Calls Try.prog 20 #[.pointer (some ⟨g, 0, none⟩), .string n] w fun e w' => e = .returned (.tuple #[.slice none 0 0, .int .i64 13]) ∧ Below w.heap.size w w' := by
  obtain ⟨S, h1, h2⟩ := h
  exact read9_no S g l c n w h1 hn hg
theorem read_dk {B g c : Nat} {l : List Fil} {n : ByteArray} {w : World} (h : DK B w g l c) (hn : n.size ≤ maxLen) (f : Fil) (hg : getF n l = some f) :
    Calls Try.prog 20 #[.pointer (some ⟨g, 0, none⟩), .string n] w fun e w' => ∃ v, e = .returned (.tuple #[v, .int .i64 0]) ∧ OwnB w.heap.size v f.b w' ∧ Below w.heap.size w w' := by
  obtain ⟨S, h1, h2⟩ := h
  exact read9_yes S g l c n f w h1 hn hg
theorem crash_dk {B g c : Nat} {l : List Fil} {n : Int} {w : World} (h : DK B w g l c) (hl : l.length ≤ 100000) (hn : -9223372036854775808 ≤ n ∧ n < 9223372036854775808) (l2 : List Fil) (h2 : crash9 n l = l2) :
    Calls Try.prog 22 #[.pointer (some ⟨g, 0, none⟩), .int .i64 n] w fun e w' => e = .returned (.pointer (some ⟨w.heap.size, 0, none⟩)) ∧ DK w.heap.size w' w.heap.size l2 0 ∧ Below w.heap.size w w' := by
  subst h2
  obtain ⟨S, h1, _⟩ := h
  refine (crash9_disk S g l c n w h1 hl hn).mono ?_
  rintro e w' ⟨he, hp, hb⟩
  exact ⟨he, ⟨_, hp, fun k hk => hk.1⟩, hb⟩
theorem names_dk {B g c : Nat} {l : List Fil} {w : World} (h : DK B w g l c) (hl : l.length ≤ 100000) :
    Calls Try.prog 26 #[.pointer (some ⟨g, 0, none⟩)] w fun e w' => ∃ v, e = .returned v ∧ w'.ownsRow w.heap.size 9 1 v l.length (l.map fun f => .string f.name) ∧ Below w.heap.size w w' := by
  obtain ⟨S, h1, _⟩ := h
  exact names9_disk S g l c w h1 hl
theorem byt_nil9 (w : World) (B : Nat) : Byt w B (.slice none 0 0) [] := ⟨none, 0, rfl, Nat.le_refl _, fun h => absurd h (by simp)⟩
/-! ### no disk -/
set_option maxHeartbeats 1000000 in
theorem app_nil (n u : Value) (w : World) : Calls Try.prog 14 #[.pointer none, n, u] w fun e w' => e = .returned (.int .i64 13) ∧ w = w' := by
  go_enter Try.func14, Try.ntmps14
  go_wp2
  go_ret
  exact ⟨rfl, rfl⟩
set_option maxHeartbeats 1000000 in
theorem swap_nil (n u : Value) (w : World) : Calls Try.prog 18 #[.pointer none, n, u] w fun e w' => e = .returned (.int .i64 13) ∧ w = w' := by
  go_enter Try.func18, Try.ntmps18
  go_wp2
  go_ret
  exact ⟨rfl, rfl⟩
set_option maxHeartbeats 1000000 in
theorem sync_nil (n : Value) (w : World) : Calls Try.prog 16 #[.pointer none, n] w fun e w' => e = .returned (.int .i64 13) ∧ w = w' := by
  go_enter Try.func16, Try.ntmps16
  go_wp2
  go_ret
  exact ⟨rfl, rfl⟩
set_option maxHeartbeats 1000000 in
theorem read_nil (n : Value) (w : World) : Calls Try.prog 20 #[.pointer none, n] w fun e w' => e = .returned (.tuple #[.slice none 0 0, .int .i64 13]) ∧ w = w' := by
  go_enter Try.func20, Try.ntmps20
  go_wp2
  exact bodyPost_ret (v := .tuple #[.slice none 0 0, .int .i64 13]) (by simp [results, Try.results20, go_sem]) rfl ⟨rfl, rfl⟩
set_option maxHeartbeats 1000000 in
theorem names_nil (w : World) : Calls Try.prog 26 #[.pointer none] w fun e w' => e = .returned (.slice none 0 0) ∧ w = w' := by
  go_enter Try.func26, Try.ntmps26
  go_wp2
  go_ret
  exact ⟨rfl, rfl⟩
set_option maxHeartbeats 1000000 in
theorem loose_nil (n : Value) (w : World) : Calls Try.prog 25 #[.pointer none, n] w fun e w' => e = .returned (.int .i64 0) ∧ w = w' := by
  go_enter Try.func25, Try.ntmps25
  go_wp2
  go_ret
  exact ⟨rfl, rfl⟩
set_option maxHeartbeats 1000000 in
theorem calls_nil (w : World) : Calls Try.prog 27 #[.pointer none] w fun e w' => e = .returned (.int .i64 0) ∧ w = w' := by
  go_enter Try.func27, Try.ntmps27
  go_wp2
  go_ret
  exact ⟨rfl, rfl⟩
set_option maxHeartbeats 1000000 in
theorem crash_nil (n : Value) (w : World) : Calls Try.prog 22 #[.pointer none, n] w fun e w' => e = .returned (.pointer none) ∧ w = w' := by
  go_enter Try.func22, Try.ntmps22
  go_wp2
  go_ret
  exact ⟨rfl, rfl⟩
end Go.Proofs.Ytbdengcblncfmaa
