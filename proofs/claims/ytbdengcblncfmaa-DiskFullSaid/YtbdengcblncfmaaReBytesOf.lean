/-
  The reference's bytesOf writes a batch as the plain function says, in new memory.
-/
import Derived.Test.YtbdengcblncfmaaReMayOps
import Derived.Test.YtbdengcblncfmaaWAppend
import Derived.Test.YtbdengcblncfmaaRePutRaw
import Derived.Deep.RegionHeld3
set_option linter.unusedSimpArgs false
set_option linter.unusedVariables false
namespace Go.Proofs.Ytbdengcblncfmaa
open Go.RowKit
set_option maxRecDepth 100000

/-- a batch as data -/
structure Bat where
  client : Int
  seq : Int
  ops : List Opn
def bytesO (o : Opn) : List UInt8 := Nu.put o.kind ++ Nu.putT o.key.data.toList ++ (if o.kind = 1 then putR o.val else if o.kind = 3 then putR o.val ++ putR o.old else if o.kind = 4 then Nu.put o.n else [])
def bytesB (b : Bat) : List UInt8 := Nu.put b.client ++ Nu.put b.seq ++ Nu.put (b.ops.length : Int) ++ b.ops.flatMap bytesO
/-- the value v is the batch b -/
def BatV (w : World) (B : Nat) (v : Value) (b : Bat) : Prop := ∃ s, v = .agg #[.int .i64 b.client, .int .i64 b.seq, s] ∧ Ops w B s b.ops
def i64 (n : Int) : Prop := -9223372036854775808 ≤ n ∧ n ≤ 9223372036854775807
def Opn.ok (o : Opn) : Prop := i64 o.kind ∧ o.key.size ≤ 1000000 ∧ o.val.ok ∧ o.old.ok ∧ i64 o.n
def Bat.ok (b : Bat) : Prop := i64 b.client ∧ i64 b.seq ∧ ∀ x ∈ b.ops, x.ok
theorem putR_le (r : Raw) (h : r.ok) : (putR r).length ≤ 1000020 := by
  have h1 := Nu.put_len r.kind
  have h2 := Nu.put_len r.n
  have h3 := putT_len r.s
  have h4 := h.2.2
  unfold putR
  rw [List.length_append]
  split
  · omega
  · split
    · omega
    · simp; omega
end Go.Proofs.Ytbdengcblncfmaa
