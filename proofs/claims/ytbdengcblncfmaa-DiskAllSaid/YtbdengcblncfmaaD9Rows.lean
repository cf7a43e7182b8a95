/-
  A disk's rows: that they lie apart; a disk whose file was laid under its name; what a step answers.
  There are no conditions beyond those that each lemma names.
-/
import Derived.Test.YtbdengcblncfmaaD9Box
set_option linter.unusedSimpArgs false
set_option linter.unusedVariables false
namespace Go.Proofs.Ytbdengcblncfmaa
open Go.RowKit
set_option maxRecDepth 100000

/-- two files' rows are two -/
def Apart9 (p q : Fil × Value) : Prop := ∀ k, p.2.ownBlock = some k → q.2.ownBlock ≠ some k
theorem Apart9.symm {p q : Fil × Value} (h : Apart9 p q) : Apart9 q p := fun k hk e => h k e hk
theorem apart_of {ps : List (Fil × Value)} (hp : ps.Pairwise Apart9) {p q : Fil × Value} (h1 : p ∈ ps) (h2 : q ∈ ps) (hne : q.1.name ≠ p.1.name) : Apart9 p q := by
  induction ps with
  | nil => cases h1
  | cons x t ih =>
    obtain ⟨a1, a2⟩ := List.pairwise_cons.1 hp
    rcases List.mem_cons.1 h1 with e1 | m1
    · rcases List.mem_cons.1 h2 with e2 | m2
      · rw [e1, e2] at hne; exact absurd rfl hne
      · rw [e1]; exact a1 q m2
    · rcases List.mem_cons.1 h2 with e2 | m2
      · rw [e2]; exact (a1 p m1).symm
      · exact ih a2 m1 m2
theorem setP_apart {q : Fil × Value} {ps : List (Fil × Value)} (hs : ps.Pairwise fun x y => ltK x.1.name y.1.name = true) (hp : ps.Pairwise Apart9) (hq : ∀ p ∈ ps, p.1.name ≠ q.1.name → Apart9 q p) : (setP q ps).Pairwise Apart9 := by
  induction ps with
  | nil => exact List.pairwise_singleton _ _
  | cons x t ih =>
    obtain ⟨s1, s2⟩ := List.pairwise_cons.1 hs
    obtain ⟨a1, a2⟩ := List.pairwise_cons.1 hp
    unfold setP
    split
    · rename_i he
      exact List.pairwise_cons.2 ⟨fun p hp => hq p (List.mem_cons_of_mem _ hp) (by rw [he]; exact (ltK_ne (s1 p hp)).symm), a2⟩
    · rename_i hne
      split
      · rename_i hlt
        refine List.pairwise_cons.2 ⟨fun p hp => hq p hp ?_, hp⟩
        rcases List.mem_cons.1 hp with e | m
        · rw [e]; exact (ltK_ne hlt).symm
        · exact (ltK_ne (ltK_trans hlt (s1 p m))).symm
      · refine List.pairwise_cons.2 ⟨fun p hp => ?_, ih s2 a2 (fun p hp => hq p (List.mem_cons_of_mem _ hp))⟩
        rcases setP_mem hp with e | m
        · rw [e]; exact (hq x List.mem_cons_self (fun e => hne e.symm)).symm
        · exact a1 p m
theorem sorted_ps {ps : List (Fil × Value)} {l : List Fil} (hl : ps.map (·.1) = l) (h : Sorted9 l) : ps.Pairwise fun x y => ltK x.1.name y.1.name = true := by
  subst hl
  exact List.pairwise_map.1 h
/-- a file was laid under its name -/
theorem PD.put_mk {w : World} {S : Nat → Prop} {g b c : Nat} {l : List Fil} {ps : List (Fil × Value)} {f : Fil} {u : Value} (hl : ps.map (·.1) = l) (hg : S g) (hb : Box9 w g (some b) c) (hsb : S b) (hm : Map9 w (some b) (setP (f, u) ps))
    (hr : ∀ p ∈ ps, p.1.name ≠ f.name → OwnB 0 p.2 p.1.b w ∧ ∀ k, p.2.ownBlock = some k → S k) (hp : ps.Pairwise Apart9) (hu : OwnB 0 u f.b w) (hus : ∀ k, u.ownBlock = some k → S k)
    (hap : ∀ p ∈ ps, p.1.name ≠ f.name → Apart9 (f, u) p) (hs : Sorted9 l) (hgd : ∀ x ∈ l, Good9 x) (hgf : Good9 f) (hlt : ∀ k, S k → k < w.heap.size) : PD w S g (setF f l) c := by
  have hss := sorted_ps hl hs
  refine ⟨some b, setP (f, u) ps, by rw [setP_map, hl], hg, hb, fun b' hb' => by cases hb'; exact hsb, hm, fun p hp => ?_, setP_apart hss hp hap, setF_sorted hs, fun x hx => ?_, hlt⟩
  · rcases setP_mem_ne hss hp with e | ⟨m, hne⟩
    · rw [e]; exact ⟨hu, hus⟩
    · exact hr p m hne
  · rcases setF_mem hx with e | m
    · rw [e]; exact hgf
    · exact hgd x m
/-- S and all blocks that came since -/
def Grw (S : Nat → Prop) (w w' : World) : Nat → Prop := fun k => S k ∨ (w.heap.size ≤ k ∧ k < w'.heap.size)
theorem Grw.lt {S : Nat → Prop} {w w' : World} (h : ∀ k, S k → k < w.heap.size) (hs : w.heap.size ≤ w'.heap.size) : ∀ k, Grw S w w' k → k < w'.heap.size := fun k hk => by
  rcases hk with h1 | h1
  · exact Nat.lt_of_lt_of_le (h k h1) hs
  · exact h1.2
/-- a disk on which only the count was written -/
theorem PD.count {w w' : World} {S : Nat → Prop} {g : Nat} {l : List Fil} {c : Nat} (h : PD w S g l c) (hb : Below w.heap.size (w.setCell ⟨g, 1, none⟩ (.int .i64 ((c + 1 : Nat) : Int))) w') :
    PD w' (Grw S w w') g l (c + 1) ∧ Off S w w' := by
  obtain ⟨m, ps, h1, h2, h3, h4, h5, h6, h7, h8, h9, h10⟩ := h
  have ho : Off (fun k => k = g) w (w.setCell ⟨g, 1, none⟩ (.int .i64 ((c + 1 : Nat) : Int))) := (Off.refl _ w).set (.inl rfl)
  have hP : PD (w.setCell ⟨g, 1, none⟩ (.int .i64 ((c + 1 : Nat) : Int))) S g l (c + 1) := by
    refine ⟨m, ps, h1, h2, h3.set1 _, h4, h5.off ho (fun b hb => ?_), fun p hp => ⟨ho.ownsRow (h6 p hp).1 (fun k hk => ?_), (h6 p hp).2⟩, h7, h8, h9, fun k hk => Nat.lt_of_lt_of_le (h10 k hk) ho.size⟩
    · subst hb
      exact fun e => h3.ne_map (show w.ownsMap Try.prog 9 RH b ps.length (DD ps) from h5) e.symm
    · rintro rfl
      obtain ⟨cur, hc⟩ := own_type (h6 p hp).1 hk
      unfold Box9 at h3
      rw [h3] at hc
      injection hc with hc; injection hc with _ h4 _
      exact disk9_ne_u8 h4
  have hz : (w.setCell ⟨g, 1, none⟩ (.int .i64 ((c + 1 : Nat) : Int))).heap.size = w.heap.size := by simp [World.setCell]
  have hsz := hb.size
  rw [hz] at hsz
  refine ⟨(hP.below (by rw [hz]; exact hb)).more (fun k hk => .inl hk) (Grw.lt h10 hsz), (ho.mono (T := S) (fun k hk => by subst hk; exact .inl h2)).then_ (by rw [hz]; exact hb)⟩
/-- the file of that name, or a new one -/
def fileOf (n : ByteArray) (l : List Fil) : Fil := (getF n l).getD ⟨n, [], 0, false⟩
def app9 (n : ByteArray) (bs : List UInt8) (l : List Fil) : Int × List Fil :=
  if goodN n = false then (1, l) else if 1048576 < (fileOf n l).b.length + bs.length then (5, l) else (0, setF ⟨n, (fileOf n l).b ++ bs, (fileOf n l).fast, (fileOf n l).there⟩ l)
def swap9 (n : ByteArray) (bs : List UInt8) (l : List Fil) : Int × List Fil :=
  if goodN n = false then (1, l) else if 1048576 < bs.length then (5, l) else (0, setF ⟨n, bs, bs.length, true⟩ l)
def sync9 (n : ByteArray) (l : List Fil) : Int × List Fil := match getF n l with
  | none => (13, l)
  | some f => (0, setF ⟨n, f.b, f.b.length, true⟩ l)
def loose9 (n : ByteArray) (l : List Fil) : Int := match getF n l with
  | none => 0
  | some f => (f.b.length : Int) - f.fast
/-- what came of a step: its answer, the disk as it is, what was left alone -/
def Did (S : Nat → Prop) (g c : Nat) (r : Int × List Fil) (w : World) (e : Ending) (w' : World) : Prop := e = .returned (.int .i64 r.1) ∧ PD w' (Grw S w w') g r.2 (c + 1) ∧ Off S w w'
/-- the rows of a disk stand where its box and its map alone are written -/
theorem rows_off9 {w w' : World} {g c : Nat} {m : Option Nat} {qs : List (Fil × Value)} {p : Fil × Value} (hb : Box9 w g m c) (hm : Map9 w m qs) (ho : Off (fun k => k = g ∨ m = some k) w w') (hp : OwnB 0 p.2 p.1.b w) : OwnB 0 p.2 p.1.b w' :=
  ho.ownsRow hp fun k hk => by
    obtain ⟨cur, hc⟩ := own_type hp hk
    rintro (rfl | rfl)
    · unfold Box9 at hb
      rw [hb] at hc
      injection hc with hc; injection hc with _ h4 _
      exact disk9_ne_u8 h4
    · exact blk_ne_map hc (show w.ownsMap Try.prog 9 RH k qs.length (DD qs) from hm)
/-- behind put: the disk again -/
theorem PD.done {w W k : World} {S : Nat → Prop} {g b c : Nat} {m : Option Nat} {l : List Fil} {ps : List (Fil × Value)} {f : Fil} {u : Value} (hl : ps.map (·.1) = l) (hg : S g) (hsm : ∀ b, m = some b → S b) (hrs : ∀ p ∈ ps, ∀ j, p.2.ownBlock = some j → S j)
    (hp : ps.Pairwise Apart9) (hs : Sorted9 l) (hgd : ∀ x ∈ l, Good9 x) (hlt : ∀ j, S j → j < w.heap.size) (hW : Off S w W) (hbW : Box9 W g m c) (hmW : Map9 W m ps) (hr : ∀ p ∈ ps, p.1.name ≠ f.name → OwnB 0 p.2 p.1.b W)
    (hu : OwnB 0 u f.b W) (hus : ∀ j, u.ownBlock = some j → Grw S w W j) (hap : ∀ p ∈ ps, p.1.name ≠ f.name → Apart9 (f, u) p) (hgf : Good9 f)
    (hb : Box9 k g (some b) c) (hm : Map9 k (some b) (setP (f, u) ps)) (hor : m = some b ∨ (m = none ∧ W.heap.size ≤ b)) (ho : Off (fun j => j = g ∨ m = some j) W k) : PD k (Grw S w k) g (setF f l) c ∧ Off S w k := by
  have hbl : b < k.heap.size := World.ownsMap.lt (show k.ownsMap Try.prog 9 RH b (setP (f, u) ps).length (DD (setP (f, u) ps)) from hm)
  have hsb : Grw S w k b := by
    rcases hor with h | ⟨_, h⟩
    · exact .inl (hsm b h)
    · exact .inr ⟨Nat.le_trans hW.size h, hbl⟩
  have hsz := Nat.le_trans hW.size ho.size
  refine ⟨PD.put_mk hl (.inl hg) hb hsb hm (fun p hp hne => ⟨rows_off9 hbW hmW ho (hr p hp hne), fun j hj => .inl (hrs p hp j hj)⟩) hp (rows_off9 (p := (f, u)) hbW hmW ho hu) (fun j hj => ?_) hap hs hgd hgf (Grw.lt hlt hsz), hW.trans ho (fun j hj => ?_)⟩
  · rcases hus j hj with h | h
    · exact .inl h
    · exact .inr ⟨h.1, Nat.lt_of_lt_of_le h.2 ho.size⟩
  · rcases hj with h | h
    · subst h; exact .inl hg
    · exact .inl (hsm j h)
theorem fileOf_good {n : ByteArray} {l : List Fil} (hn : goodN n = true) (h : ∀ f ∈ l, Good9 f) : Good9 (fileOf n l) ∧ (fileOf n l).name = n := by
  unfold fileOf
  cases hg : getF n l with
  | none => exact ⟨⟨hn, Nat.le_refl _, by show 0 ≤ 1048576; omega, fun _ => rfl⟩, rfl⟩
  | some f => exact ⟨h f (getF_mem hg).1, (getF_mem hg).2⟩
/-- bytes that stand whatever is done to blocks of which S holds -/
def Safe9 (S : Nat → Prop) (w : World) (u : Value) (bs : List UInt8) : Prop := ∀ w', Off S w w' → Byt w' w'.heap.size u bs
theorem Safe9.of_byt {S : Nat → Prop} {w : World} {B : Nat} {u : Value} {bs : List UInt8} (h : Byt w B u bs) (hS : ∀ k, S k → B ≤ k) (hB : B ≤ w.heap.size) : Safe9 S w u bs := fun _ ho => (h.below (ho.below hS hB) (Nat.le_refl _)).more (Nat.le_trans hB ho.size)
theorem Safe9.of_own {S : Nat → Prop} {w : World} {B : Nat} {u : Value} {bs : List UInt8} (h : OwnB B u bs w) (hS : ∀ k, u.ownBlock = some k → ¬ S k) : Safe9 S w u bs := fun w' ho => by
  have h2 : OwnB B u bs w' := ho.ownsRow h hS
  exact Byt.of_own h2
/-- what the map answers of a name, told by the file of that name -/
theorem look_one {w : World} {S : Nat → Prop} {l : List Fil} {ps : List (Fil × Value)} {n : ByteArray} (hl : ps.map (·.1) = l) (h6 : ∀ p ∈ ps, OwnB 0 p.2 p.1.b w) (hS : ∀ p ∈ ps, ∀ k, p.2.ownBlock = some k → S k) (hp : ps.Pairwise Apart9) :
    ∃ A q ca, lookV n ps = .agg #[.slice A q ca, .int .i64 (((fileOf n l).fast : Nat) : Int), .bool (fileOf n l).there] ∧ (fileOf n l).b.length = q ∧ OwnB 0 (.slice A q ca) (fileOf n l).b w ∧ (∀ k, (Value.slice A q ca).ownBlock = some k → S k) ∧ ∀ p ∈ ps, p.1.name ≠ n → ∀ x, Apart9 (x, .slice A q ca) p := by
  have hg : getF n l = (ps.find? fun p => decide (p.1.name = n)).map (·.1) := by rw [← hl]; exact find_map9 n ps
  unfold lookV fileOf
  rw [hg]
  cases hf : ps.find? (fun p => decide (p.1.name = n)) with
  | none => exact ⟨none, 0, 0, rfl, rfl, ownB_nil 0 w, fun k hk => (by cases hk), fun p _ _ x k hk => (by cases hk)⟩
  | some p =>
    have hm := List.mem_of_find?_eq_some hf
    have hpn : p.1.name = n := by simpa using List.find?_some hf
    obtain ⟨A, ca, hv⟩ := own_slice (h6 p hm)
    refine ⟨A, _, ca, ?_, rfl, ?_, ?_, fun r hr hne x => ?_⟩
    · show fileV p = .agg #[.slice A p.1.b.length ca, .int .i64 ((p.1.fast : Nat) : Int), .bool p.1.there]
      unfold fileV; rw [hv]
    · show OwnB 0 (.slice A p.1.b.length ca) p.1.b w
      rw [← hv]; exact h6 p hm
    · show ∀ k, (Value.slice A p.1.b.length ca).ownBlock = some k → S k
      rw [← hv]; exact hS p hm
    · have := apart_of hp hm hr (by rw [hpn]; exact hne)
      unfold Apart9 at *
      rw [hv] at this; exact this
end Go.Proofs.Ytbdengcblncfmaa
