/-
  Zeros are put behind a row of bytes of one's own: append of what make made.
  There are no conditions beyond those that each lemma names.
-/
import Derived.Test.YtmpdjioclalifaaDoorWAppend
import Derived.Lib.AppendZeros
import Derived.Test.YtmpdjioclalifaaDoorL5Own
import Derived.Lib.AppendStr
set_option linter.unusedSimpArgs false
set_option linter.unusedVariables false
namespace Go.Proofs.YtmpdjioclalifaaDoor
open Go.RowKit
set_option maxRecDepth 100000

def zeroT (n : Nat) : ByteArray := ⟨(List.replicate n 0).toArray⟩
theorem zeroT_size (n : Nat) : (zeroT n).size = n := by show (List.replicate n (0 : UInt8)).toArray.size = n; simp
theorem zeroT_map (n : Nat) : Array.map (fun b => Value.int .u8 ((b.toNat : Nat) : Int)) (zeroT n).data = Builtin.zeroCells #[.int .u8 0] n := by
  unfold zeroT Builtin.zeroCells
  apply Array.ext
  · simp
  · intro i h1 h2
    simp [Nat.mod_one]
theorem zeroT_cells (n : Nat) : (Array.map (fun b => Value.int .u8 ((b.toNat : Nat) : Int)) (zeroT n).data).extract 0 n = Builtin.zeroCells #[.int .u8 0] n := by
  rw [zeroT_map]
  have : (Builtin.zeroCells #[.int .u8 0] n).size = n := by simp [Builtin.zeroCells]
  conv => lhs; rw [show n = (Builtin.zeroCells #[.int .u8 0] n).size from this.symm]
  simp [this]
theorem zeroT_list (n : Nat) : List.take n (List.map (fun b => Value.int .u8 ((b.toNat : Nat) : Int)) (zeroT n).data.toList) = (Builtin.zeroCells #[.int .u8 0] n).toList := by
  rw [← zeroT_map, Array.toList_map, List.take_of_length_le]
  simp [zeroT]
/-- the zeros that the translation tells by their number are those of a text of zeros -/
theorem run_zeros (w : World) (ty : TypeId) (A : Option Addr) (m c n : Nat) (h0 : 0 < n) (hn : n ≤ 100000) (hm : m ≤ 100000) :
    (Builtin.append_ #[22, 3] ty #[.slice A m c, .int .i64 n]).run Tryd.prog w = (Builtin.append_ #[22, 9] ty #[.slice A m c, .string (zeroT n)]).run Tryd.prog w := by
  obtain ⟨i, hi, hz0, hz1, hz2⟩ := info_parts Tryd.infoU8
  have hw : IntKind.i64.wrap (n : Int) = n := by rw [IntKind.wrap_i64]; omega
  have hneg : ¬ ((n : Int) < 0) := by omega
  have h48i : ¬ (281474976710656 < (n : Int)) := by omega
  have h63 : ¬ (9223372036854775807 < ((m : Int) + (n : Int))) := by omega
  have hne : ¬ n = 0 := by omega
  have hsz := zeroT_size n
  have hc := zeroT_cells n
  have hcl := zeroT_list n
  by_cases hr : m + n ≤ c
  · simp [Builtin.append_, run_underlying Tryd.underlying22, run_underlying Tryd.underlying3, run_underlying Tryd.underlying9, sizeOf, typeInfo, zeroValue, hi, hz0, hz1, hz2, asInt, asIntOf, hw, hneg, h48i, hne, Builtin.lenOf, hsz, hr, Builtin.firstCells, hc, hcl, Value.cells]
  · have hfit : ¬ (281474976710656 < Builtin.nextslicecap (m + n) c) := by
      have := nextslicecap_le (need := m + n) (old := c) (by omega)
      omega
    simp [Builtin.append_, run_underlying Tryd.underlying22, run_underlying Tryd.underlying3, run_underlying Tryd.underlying9, sizeOf, typeInfo, zeroValue, hi, hz0, hz1, hz2, asInt, asIntOf, hw, hneg, h48i, hne, h63, hfit, Builtin.lenOf, hsz, hr, Builtin.firstCells, hc, hcl, Value.cells]
/-- zeros are put behind a row of one's own -/
theorem wpList_append_zeros {w : World} {ops : Array Oper} {rest : List Oper} {o : Oper} {a : Act} {Q : Exit → Act → World → Prop} (hgd : o.guard = none) (s x : Operand)
    (ho : o.op = .call { callee := .builtin .append, args := #[s, x], argTypes := #[22, 3] })
    (B : Nat) (v : Value) (l : List UInt8) (n : Nat) (hs : a.eval s = v) (hown : OwnB B v l w) (hx : a.eval x = .int .i64 n) (h0 : 0 < n) (hn : n ≤ 100000) (hl : l.length ≤ 100000) (hB : B ≤ w.heap.size)
    (h : ∀ v' w', OwnB B v' (l ++ List.replicate n 0) w' → Below B w w' → wpList Tryd.prog ops Q rest (a.put o.dst v') w') : wpList Tryd.prog ops Q (o :: rest) a w := by
  obtain ⟨iR, hiR, hzR0, hzR1, hzR2⟩ := info_parts Tryd.infoU8
  have hgr := fun (w' : World) (hg : w.grownBy w' v.ownBlock) => (Below.refl B w).grown hg hB (fun g hg => (hown.lt g hg).1)
  have hsz := zeroT_size n
  obtain ⟨A, c, hv⟩ := own_slice hown
  obtain ⟨v', w', hr, h2, h3, _⟩ := Lib.run_append_own_string (P := Tryd.prog) w B 22 9 o.type 5 iR Tryd.underlying22 Tryd.underlying9 hiR hzR0 hzR1 hzR2 v l.length _ hown (zeroT n) (by unfold maxLen; omega) (by omega) hB
  rw [hv, ← run_zeros w o.type A l.length c n h0 hn hl, ← hv] at hr
  refine wpList_plain hgd fun K hK => ?_
  unfold Oper.wp execOp
  simp only [ho, resolve, invoke, builtin, Sem.run_bind, Sem.run_pure, Result.andThen_ok, List.map_toArray, List.map_cons, List.map_nil, hs, hx, hr]
  refine hK _ _ (h v' w' ?_ (hgr w' h3))
  have e : (l ++ List.replicate n (0 : UInt8)).length = l.length + (zeroT n).size := by rw [hsz]; simp
  unfold OwnB
  rw [e, Lib.byteCells_append]
  have e2 : Lib.byteCells (List.replicate n (0 : UInt8)) = Lib.strCells (zeroT n) := by simp [Lib.byteCells, Lib.strCells, zeroT]
  rw [e2]
  exact h2
end Go.Proofs.YtmpdjioclalifaaDoor
