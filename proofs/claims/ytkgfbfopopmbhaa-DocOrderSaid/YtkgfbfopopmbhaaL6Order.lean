/-
  Plain facts on documents into which keys are put one behind the other, with no program's run in them; and a text put behind a row of texts of one's own.
  There are no conditions.
-/
import Derived.Test.YtkgfbfopopmbhaaL6Box
import Derived.Test.YtkgfbfopopmbhaaWAppend
set_option linter.unusedSimpArgs false
set_option linter.unusedVariables false
namespace Go.Proofs.Ytkgfbfopopmbhaa
open Go.RowKit
set_option maxRecDepth 100000

theorem wrap_i64 (x : Int) (h0 : -9223372036854775808 ≤ x) (h1 : x ≤ 9223372036854775807) : IntKind.i64.wrap x = x := by
  unfold IntKind.wrap
  simp [IntKind.bits, IntKind.signed]
  omega
def oneR : Raw := ⟨1, 1, ⟨#[]⟩⟩
def insK (ks : List ByteArray) : List Par := ks.foldl (fun d k => dSet d k oneR) []
theorem insK_snoc (ks : List ByteArray) (k : ByteArray) : insK (ks ++ [k]) = dSet (insK ks) k oneR := by unfold insK; rw [List.foldl_append]; rfl
theorem foldK_srt : ∀ (ks : List ByteArray) (d : List Par), Srt d → Srt (ks.foldl (fun d k => dSet d k oneR) d)
  | [], _, h => h
  | k :: t, d, h => foldK_srt t _ (srt_set h k oneR)
theorem insK_srt (ks : List ByteArray) : Srt (insK ks) := foldK_srt ks [] List.Pairwise.nil
theorem foldK_len : ∀ (ks : List ByteArray) (d : List Par), (ks.foldl (fun d k => dSet d k oneR) d).length ≤ d.length + ks.length
  | [], _ => by simp
  | k :: t, d => by
    have h1 := foldK_len t (dSet d k oneR)
    have h2 := dSet_len d k oneR
    simp only [List.foldl_cons, List.length_cons]
    omega
theorem insK_len (ks : List ByteArray) : (insK ks).length ≤ ks.length := by
  have := foldK_len ks []
  simpa [insK] using this
theorem foldK_mem (p : Par) : ∀ (ks : List ByteArray) (d : List Par), p ∈ ks.foldl (fun d k => dSet d k oneR) d ↔ (p ∈ d ∧ p.k ∉ ks) ∨ (p.v = oneR ∧ p.k ∈ ks)
  | [], d => by simp
  | k :: t, d => by
    rw [List.foldl_cons, foldK_mem p t, dSet_in]
    have h0 : oneR.kind ≠ 0 := by decide
    obtain ⟨pk, pv⟩ := p
    simp only [List.mem_cons, Par.mk.injEq]
    constructor
    · rintro (⟨⟨_, rfl, rfl⟩ | ⟨h1, h2⟩, h3⟩ | ⟨h1, h2⟩)
      · exact .inr ⟨rfl, .inl rfl⟩
      · exact .inl ⟨h1, fun h => h.elim h2 h3⟩
      · exact .inr ⟨h1, .inr h2⟩
    · rintro (⟨h1, h2⟩ | ⟨rfl, h2⟩)
      · exact .inl ⟨.inr ⟨h1, fun h => h2 (.inl h)⟩, fun h => h2 (.inr h)⟩
      · by_cases h3 : pk ∈ t
        · exact .inr ⟨rfl, h3⟩
        · rcases h2 with h2 | h2
          · exact .inl ⟨.inl ⟨h0, h2, rfl⟩, h3⟩
          · exact absurd h2 h3
theorem insK_ext {ks ls : List ByteArray} (h : ∀ x, x ∈ ks ↔ x ∈ ls) : insK ks = insK ls := by
  refine srt_ext (insK_srt _) (insK_srt _) (fun p => ?_)
  unfold insK
  rw [foldK_mem, foldK_mem, h]
theorem insK_put {ks : List ByteArray} {k : ByteArray} (hk : Ru.key k.data.toList = true) (hl : ks.length < 50) : dApply (insK ks) [putO k 1] = (insK (ks ++ [k]), 0) := by
  have := insK_len ks
  rw [dApply_one _ _ (putO_err hk (.inl (by omega))), putO_do, insK_snoc]; rfl
/-- the keys turned round by s -/
def rotK (l : List ByteArray) (s : Nat) : List ByteArray := (List.range l.length).map fun i => l.getD ((i + s) % l.length) ⟨#[]⟩
theorem rotK_len (l : List ByteArray) (s : Nat) : (rotK l s).length = l.length := by simp [rotK]
theorem rotK_at (l : List ByteArray) (s k : Nat) (hk : k < l.length) (h2 : (k + s) % l.length < l.length) : (rotK l s)[k]'(by rw [rotK_len]; exact hk) = l[(k + s) % l.length] := by
  simp [rotK, List.getD, List.getElem?_eq_getElem h2]
theorem rotK_mem (l : List ByteArray) (s : Nat) (hs : s < l.length) (x : ByteArray) : x ∈ rotK l s ↔ x ∈ l := by
  constructor
  · intro h
    obtain ⟨k, hk, rfl⟩ := List.getElem_of_mem h
    rw [rotK_len] at hk
    have h2 : (k + s) % l.length < l.length := Nat.mod_lt _ (by omega)
    rw [rotK_at l s k hk h2]
    exact List.getElem_mem ..
  · intro h
    obtain ⟨j, hj, rfl⟩ := List.getElem_of_mem h
    have h1 : (j + l.length - s) % l.length < l.length := Nat.mod_lt _ (by omega)
    have h2 : ((j + l.length - s) % l.length + s) % l.length = j := by
      rw [Nat.mod_add_mod, show j + l.length - s + s = j + l.length by omega, Nat.add_mod_right, Nat.mod_eq_of_lt hj]
    have h3 := rotK_at l s _ h1 (by rw [h2]; exact hj)
    have h4 : l[j] = (rotK l s)[(j + l.length - s) % l.length]'(by rw [rotK_len]; exact h1) := by
      rw [h3]; congr 1; exact h2.symm
    rw [h4]
    exact List.getElem_mem ..
theorem insK_rot (l : List ByteArray) (s : Nat) (hs : s < l.length) : insK (rotK l s) = insK l := insK_ext (rotK_mem l s hs)
theorem take_snoc {l : List ByteArray} {k : Nat} (hk : k < l.length) : l.take k ++ [l[k]] = l.take (k + 1) := by
  rw [List.take_add_one, List.getElem?_eq_getElem hk]; rfl
/-- a text that lies in a block is put behind a row of one's own -/
theorem wp_append_str {w : World} {o : Oper} {a : Act} {K : Act → World → Prop} {Q : Exit → Act → World → Prop} (s x : Operand)
    (ho : o.op = .call { callee := .builtin .append, args := #[s, x], argTypes := #[50, 50] })
    (B : Nat) (v : Value) (l : List ByteArray) (y : ByteArray) (g : Nat) (hs : a.eval s = v) (hown : OwnS B v l w) (hx : a.eval x = .slice (some ⟨g, 0, none⟩) 1 1) (hy : w.cell? ⟨g, 0, none⟩ = some (.string y)) (hl : l.length ≤ 1000) (hB : B ≤ w.heap.size)
    (h : ∀ v' w', OwnS B v' (l ++ [y]) w' → Below B w w' → K (a.put o.dst v') w') : o.wp Try.prog a w K Q := by
  obtain ⟨iO, hiO, hzO0, hzO1, hzO2⟩ := info_parts Try.infoStr3
  have hgr := fun (w' : World) (hg : w.grownBy w' v.ownBlock) => (Below.refl B w).grown hg hB (fun g hg => (World.ownsRow.lt hown g hg).1)
  obtain ⟨v', w', hr, h2, h3, _, _⟩ := run_append_own_at (P := Try.prog) w B 50 o.type 9 iO _ 1 16 Try.underlying50 hiO hzO0 hzO1 hzO2 rfl (by decide) v l.length _ hown ⟨g, 0, none⟩ 1 1 [.string y] rfl
    (by
      intro j z hj
      match j, hj with
      | 0, hj => simp at hj; subst hj; simpa [Addr.add] using hy
      | j + 1, hj => simp at hj) (by intro u hu; simp at hu; subst hu; rfl) (by unfold maxLen; omega) (by omega) hB
  unfold Oper.wp execOp
  simp only [ho, resolve, invoke, builtin, Sem.run_bind, Sem.run_pure, Result.andThen_ok, List.map_toArray, List.map_cons, List.map_nil, hs, hx, hr]
  refine h v' w' ?_ (hgr w' h3)
  unfold OwnS; rw [List.length_append, List.map_append]; exact h2
theorem wpList_append_str {w : World} {ops : Array Oper} {rest : List Oper} {o : Oper} {a : Act} {Q : Exit → Act → World → Prop} (hgd : o.guard = none) (s x : Operand)
    (ho : o.op = .call { callee := .builtin .append, args := #[s, x], argTypes := #[50, 50] })
    (B : Nat) (v : Value) (l : List ByteArray) (y : ByteArray) (g : Nat) (hs : a.eval s = v) (hown : OwnS B v l w) (hx : a.eval x = .slice (some ⟨g, 0, none⟩) 1 1) (hy : w.cell? ⟨g, 0, none⟩ = some (.string y)) (hl : l.length ≤ 1000) (hB : B ≤ w.heap.size)
    (h : ∀ v' w', OwnS B v' (l ++ [y]) w' → Below B w w' → wpList Try.prog ops Q rest (a.put o.dst v') w') : wpList Try.prog ops Q (o :: rest) a w :=
  wpList_plain hgd fun _ hK => wp_append_str s x ho B v l y g hs hown hx hy hl hB fun v' w' h1 h2 => hK _ _ (h v' w' h1 h2)
end Go.Proofs.Ytkgfbfopopmbhaa
