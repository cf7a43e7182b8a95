/-
  How a law's argument that is a slice of a disk's operations is opened.
  There are no conditions.
-/
import Derived.Test.YtbdengcblncfmaaLawKit
import Derived.Test.YtbdengcblncfmaaOpenOp
set_option linter.unusedSimpArgs false
set_option linter.unusedVariables false
namespace Go.Proofs.Ytbdengcblncfmaa
open Go.RowKit Go.WideShapes Go.ChangeShapes Go.Joins Go.Deep
set_option maxRecDepth 100000

/-- one of a disk's operations, as a law has it -/
structure Dop where
  kind : Int
  n : Int
  name : ByteArray
  b : List UInt8
def Dop.fit (o : Dop) : Prop := I64 o.kind ∧ I64 o.n ∧ o.name.size ≤ maxLen ∧ o.b.length ≤ maxLen
/-- a slice value of such operations; its cells lie below block B -/
def Dops (w : World) (B : Nat) (v : Value) (L : List Dop) : Prop :=
  ∃ A c, v = .slice A L.length c ∧ L.length ≤ c ∧ (0 < L.length → ∃ g o, A = some ⟨g, o, Option.none⟩ ∧ g < B ∧ ∀ k (h : k < L.length), ∃ u, w.rangeAt g (o + k * 4) [.int .i64 L[k].kind, .int .i64 L[k].n, .string L[k].name, u] ∧ Byt w B u L[k].b)
theorem Try.cellsDop9 : Try.prog.cellsOf 32 = 4 := by kernel_rfl
theorem Try.cellsBts9 : Try.prog.cellsOf 30 = 1 := by kernel_rfl
section
variable {H : Type} {enc : TypeId × Value → H} {W : World} {b0 : Nat} {r : Reach} {v : Value} {d : DataW H} {p : List MemPlace}
theorem trod_struct4_9 {P : Program} {w : World} {base : Nat} {spare : Nat → Bool} {held : Bool} {t : TypeId} {f0 f1 f2 f3 : Field} {fuel : Nat} {cs : List Value} {x : DataW H × List MemPlace} (ht : P.underlying t = some (.struct #[f0, f1, f2, f3])) (h : DataW.trod enc P w base spare held fuel t cs = some x) :
    ∃ y0 y1 y2 y3 n, cs.length = P.cellsOf t ∧ DataW.trod enc P w base spare held n f0.type ((cs.drop f0.offset).take (P.cellsOf f0.type)) = some y0 ∧
      DataW.trod enc P w base spare held n f1.type ((cs.drop f1.offset).take (P.cellsOf f1.type)) = some y1 ∧ DataW.trod enc P w base spare held n f2.type ((cs.drop f2.offset).take (P.cellsOf f2.type)) = some y2 ∧
      DataW.trod enc P w base spare held n f3.type ((cs.drop f3.offset).take (P.cellsOf f3.type)) = some y3 := by
  obtain ⟨xs, n, _, rfl, hl, hlen, hf⟩ := DataW.trod_struct ht h
  match xs, hlen with
  | [y0, y1, y2, y3], _ => exact ⟨y0, y1, y2, y3, n, hl, by simpa using hf 0 f0 rfl, by simpa using hf 1 f1 rfl, by simpa using hf 2 f2 rfl, by simpa using hf 3 f3 rfl⟩
theorem bytes_cells9 {fuel : Nat} {cs : List Value} {x : DataW H × List MemPlace} (hf : DataW.trod enc Try.prog W 0 (fun _ => true) true fuel 30 cs = some x) :
    ∃ (u : Value) (l : List UInt8), cs = [u] ∧ Byt W W.heap.size u l ∧ l.length ≤ maxLen := by
  obtain ⟨d, p⟩ := x
  rcases open_ints Try.underlying30 Try.underlying5 (by kernel_rfl) hf with ⟨hcs, _⟩ | ⟨x, len, cap, zs, hcs, _, hl, hm, hz, _, hcell, hwz⟩
  · exact ⟨_, [], hcs, ⟨none, 0, rfl, Nat.le_refl _, fun h => absurd h (by simp)⟩, Nat.zero_le _⟩
  · have hz : zs.length = cap := by simpa using hz
    have hlen : ((zs.take len).map fun z => UInt8.ofNat z.toNat).length = len := by rw [List.length_map, List.length_take]; omega
    refine ⟨_, (zs.take len).map fun z => UInt8.ofNat z.toNat, hcs, ?_, by rw [hlen]; omega⟩
    refine ⟨some x, cap, by rw [hlen], by rw [hlen]; exact hl, fun hn => ?_⟩
    rw [hlen] at hn
    have hc0 := hcell 0 (by omega)
    obtain ⟨b, off, spot⟩ := x
    have hspot : spot = none := by simpa [Addr.add] using World.cell?_spot hc0
    subst hspot
    refine ⟨b, off, rfl, ?_, fun k hk => ?_⟩
    · have := cell_lt hc0; simpa [Addr.add] using this
    · rw [hlen] at hk
      have hk2 : k < zs.length := by omega
      have hc := hcell k hk2
      have e : (⟨b, off, none⟩ : Addr).add k = ⟨b, off + k, none⟩ := by unfold Addr.add; split <;> simp_all
      rw [e] at hc
      rw [hc]
      have hw := bounds_u8 (hwz zs[k] (List.getElem_mem hk2))
      simp only [List.getElem_map, List.getElem_take]
      rw [u8_back _ hw.1 (by omega), List.getD, List.getElem?_eq_getElem hk2]; rfl
theorem dop_cells {fuel : Nat} {cs : List Value} {x : DataW H × List MemPlace} (h : DataW.trod enc Try.prog W 0 (fun _ => true) true fuel 32 cs = some x) : ∃ (o : Dop) (u : Value), cs = [.int .i64 o.kind, .int .i64 o.n, .string o.name, u] ∧ Byt W W.heap.size u o.b ∧ o.fit := by
  obtain ⟨y0, y1, y2, y3, n, hl, h0, h1, h2, h3⟩ := trod_struct4_9 Try.underlying32 h
  rw [Try.cellsDop9] at hl
  match cs, hl with
  | [c0, c1, c2, c3], _ =>
    simp only [Try.cellsInt, Try.cellsString, Try.cellsBts9, List.drop_zero, List.drop_succ_cons, List.take_succ_cons, List.take_zero] at h0 h1 h2 h3
    obtain ⟨a, e0, _, wa⟩ := DataW.trod_int Try.underlying3 h0
    obtain ⟨b, e1, _, wb⟩ := DataW.trod_int Try.underlying3 h1
    obtain ⟨s, e2, _, ws⟩ := DataW.trod_string Try.underlying9 h2
    obtain ⟨u, l, e3, hu, hl3⟩ := bytes_cells9 h3
    simp only [List.cons.injEq, and_true] at e0 e1 e2 e3
    subst e0; subst e1; subst e2; subst e3
    exact ⟨⟨a, b, s, l⟩, c3, rfl, hu, i64_wf wa, i64_wf wb, ws, hl3⟩
theorem open_dops (hv : Value.okWide Try.prog W r b0 22 v) (h : DataW.Trod enc Try.prog W 0 (fun _ => true) true 22 v d p) :
    ∃ (A : Option Addr) (c : Nat) (L : List Dop), v = .slice A L.length c ∧ Dops W W.heap.size (.slice A L.length c) L ∧ ∀ b ∈ L, b.fit := by
  obtain ⟨a0, len, cap, rfl⟩ := okWide_slice Try.underlying22 hv
  obtain ⟨fuel, hf⟩ := h
  have hf2 : DataW.trod enc Try.prog W 0 (fun _ => true) true fuel 22 [.slice a0 len cap] = some (d, p) := by simpa [Value.cells] using hf
  rcases open_slice Try.underlying22 hf2 with ⟨hcs, _⟩ | ⟨a, len', cap', m, n, D, Pl, hcs, _, hl, hm, hmm, _, hx⟩
  · simp only [List.cons.injEq, and_true] at hcs
    injection hcs with e1 e2 e3
    subst e1; subst e2; subst e3
    exact ⟨none, 0, [], rfl, ⟨none, 0, rfl, Nat.le_refl _, fun h => absurd h (by decide)⟩, fun x hx => by cases hx⟩
  · simp only [List.cons.injEq, and_true] at hcs
    injection hcs with e1 e2 e3
    subst e1; subst e2; subst e3
    simp only [if_true] at hmm
    subst hmm
    rw [Try.cellsDop9] at hx
    have hz : Inhabited Dop := ⟨⟨0, 0, ByteArray.empty, []⟩⟩
    obtain ⟨f, hf⟩ := choose_lt (α := Dop) (p := fun i b => ∃ u, W.cells? 0 (a.add (i * 4)) 4 = some [.int .i64 b.kind, .int .i64 b.n, .string b.name, u] ∧ Byt W W.heap.size u b.b ∧ b.fit) (fun i (hi : i < len) => by
      obtain ⟨cs', h1, h2⟩ := hx i (by omega)
      obtain ⟨b, u, rfl, h3, h4⟩ := dop_cells h2
      exact ⟨b, u, h1, h3, h4⟩)
    have hln : ((List.range len).map f).length = len := by simp
    refine ⟨some a, m, (List.range len).map f, by rw [hln], ?_, fun x hx => ?_⟩
    · refine ⟨some a, m, rfl, by rw [hln]; exact hl, fun h0 => ?_⟩
      rw [hln] at h0
      obtain ⟨u, hc0, _⟩ := hf 0 h0
      obtain ⟨_, hl0, hcc⟩ := World.cells?_some hc0
      have hc := hcc 0 (by decide)
      obtain ⟨g, o, spot⟩ := a
      have hspot : spot = Option.none := by simpa [Addr.add] using World.cell?_spot hc
      subst hspot
      refine ⟨g, o, rfl, ?_, fun k hk => ?_⟩
      · have := cell_in hc; simpa [Addr.add] using this
      · rw [hln] at hk
        obtain ⟨u, h1, h2, h3⟩ := hf k hk
        have e : ((List.range len).map f)[k]'(by rw [hln]; exact hk) = f k := by simp
        rw [e]
        refine ⟨u, fun j v hj => ?_, h2⟩
        obtain ⟨_, hli, hci⟩ := World.cells?_some h1
        have hj3 : j < 4 := (List.getElem?_eq_some_iff.1 hj).1
        have e2 : ((⟨g, o, Option.none⟩ : Addr).add (k * 4)).add j = ⟨g, o + k * 4 + j, Option.none⟩ := by
          rw [add_add]; unfold Addr.add; split
          · have h0 : k * 4 + j = 0 := by assumption
            have : o + k * 4 + j = o := by omega
            rw [this]
          · show (⟨g, o + (k * 4 + j), _⟩ : Addr) = _
            rw [Nat.add_assoc]
        rw [← e2, hci j hj3]; exact hj
    · obtain ⟨i, hi, rfl⟩ := List.mem_map.1 hx
      obtain ⟨u, h1, h2, h3⟩ := hf i (List.mem_range.1 hi)
      exact h3
end
theorem Dops.keep {w w' : World} {B C : Nat} {v : Value} {L : List Dop} (h : Dops w B v L) (hb : Below C w w') (hC : B ≤ C) : Dops w' B v L := by
  obtain ⟨A, c, hv, hc, h⟩ := h
  refine ⟨A, c, hv, hc, fun hn => ?_⟩
  obtain ⟨g, o, hA, hg, hcs⟩ := h hn
  refine ⟨g, o, hA, hg, fun k hk => ?_⟩
  obtain ⟨u, h1, h2⟩ := hcs k hk
  exact ⟨u, fun j z hj => (hb.cell (p := ⟨g, o + k * 4 + j, Option.none⟩) (Nat.lt_of_lt_of_le hg hC)).trans (h1 j z hj), h2.below hb hC⟩
theorem Dops.at_ {w : World} {B n c : Nat} {A : Option Addr} {L : List Dop} (h : Dops w B (.slice A n c) L) (k : Nat) (hk : k < L.length) :
    ∃ g o Ak ck, A = some ⟨g, o, Option.none⟩ ∧ g < B ∧ w.rangeAt g (o + k * 4) [.int .i64 L[k].kind, .int .i64 L[k].n, .string L[k].name, .slice Ak L[k].b.length ck] ∧ Byt w B (.slice Ak L[k].b.length ck) L[k].b ∧ L[k].b.length ≤ ck := by
  obtain ⟨A', c', hv, _, h⟩ := h
  injection hv with e1 e2 e3
  subst e1
  obtain ⟨g, o, rfl, hg, hcs⟩ := h (by omega)
  obtain ⟨u, h1, h2⟩ := hcs k hk
  obtain ⟨Ak, ck, rfl, hck, r⟩ := id h2
  exact ⟨g, o, Ak, ck, rfl, hg, h1, h2, hck⟩
end Go.Proofs.Ytbdengcblncfmaa
