/-
  No cell of these rows narrows 'for every input' (looked for: loops, veiled, ifaces, maps, wideKeys, modest, calm, conditions, laid).
  DERIVED. THE GIVEN ROWS OF THIS SEAT. 7 by the template 'for every input the law returns true; each argument reads behind the call as it read before'; 0 by the template 'total and deterministic' (their statements: YtffklbkdmfeimaaTotals.lean).
  GIVEN WITH THE SEED: the statements are not yours to turn. If you find one false, say at which input.
  Laid BY PROGRAM, IN A SANDBOX (cutbox-rows.mjs): the forced cells as the released guide's own fill.sh prints them over the translation 3d1bd8fad3305211… (all of the seat's roots in one cut). By AI agents, Wed Nov 11 2026. No macro, syntax, notation, axiom, sorry.
-/
import Derived.Test.YtffklbkdmfeimaaChecked
import GoSem.Claim
import GoSem.ClaimJoined
import GoSem.ClaimMapViews
import Derived.JoinedTies
import Derived.KernelRfl
namespace Go.Proofs.Ytffklbkdmfeimaa
/- THE CELL 'sum', in the pinned program and in every row, IS THE sha256 OF THE DUMP (.gsa) THAT YtffklbkdmfeimaaProg.lean LOADS. Nothing in Lean hashes anything: it is a label: what it is worth is what the hold of that sum in a sandbox is worth. -/
noncomputable def Try.pinned : Pinned := { name := "ytffklbkdmfeimaa", sum := "3d1bd8fad3305211789e14b1bfb47481c8407c5171c38a728b6c1307ab96af19", checked := Try.checked }
namespace Rows
def none {H : Type} : Left H := { results := [], args := [] }

/-- 'packhorselaw4.ValueAll': WHATEVER THE INPUT: true; the input reads as it did. -/
def valueAllSpec : ChangeSpec := { name := "valueAll", fn := fun _ => fun
  | [d1, d2] => { results := [.lit (.bool true)], args := [d1, d2] }
  | _ => none }
def valueAllRow : OpenClaim := { program := "ytffklbkdmfeimaa", sum := "3d1bd8fad3305211789e14b1bfb47481c8407c5171c38a728b6c1307ab96af19", func := "packhorse/packhorselaw4.ValueAll", spec := "valueAll", apart := false }
def ValueAllSaid : Prop := valueAllRow.holds Try.pinned (OpenSpec.ofChange valueAllSpec)

/-- ITS FALSE NEIGHBOUR: 'it returns false'. Refute it at one input. -/
def valueAllWrong : ChangeSpec := { name := "valueAll", fn := fun _ => fun
  | [d1, d2] => { results := [.lit (.bool false)], args := [d1, d2] }
  | _ => none }
def ValueAllWrongFalsely : Prop := valueAllRow.holds Try.pinned (OpenSpec.ofChange valueAllWrong)

/-- 'packhorselaw4.ValueEq': WHATEVER THE INPUT: true; the input reads as it did. -/
def valueEqSpec : ChangeSpec := { name := "valueEq", fn := fun _ => fun
  | [d1, d2] => { results := [.lit (.bool true)], args := [d1, d2] }
  | _ => none }
def valueEqRow : OpenClaim := { program := "ytffklbkdmfeimaa", sum := "3d1bd8fad3305211789e14b1bfb47481c8407c5171c38a728b6c1307ab96af19", func := "packhorse/packhorselaw4.ValueEq", spec := "valueEq", apart := false }
def ValueEqSaid : Prop := valueEqRow.holds Try.pinned (OpenSpec.ofChange valueEqSpec)

/-- ITS FALSE NEIGHBOUR: 'it returns false'. Refute it at one input. -/
def valueEqWrong : ChangeSpec := { name := "valueEq", fn := fun _ => fun
  | [d1, d2] => { results := [.lit (.bool false)], args := [d1, d2] }
  | _ => none }
def ValueEqWrongFalsely : Prop := valueEqRow.holds Try.pinned (OpenSpec.ofChange valueEqWrong)

/-- 'packhorselaw4.ValueAny': WHATEVER THE INPUT: true; the input reads as it did. -/
def valueAnySpec : ChangeSpec := { name := "valueAny", fn := fun _ => fun
  | [d1, d2, d3, d4] => { results := [.lit (.bool true)], args := [d1, d2, d3, d4] }
  | _ => none }
def valueAnyRow : OpenClaim := { program := "ytffklbkdmfeimaa", sum := "3d1bd8fad3305211789e14b1bfb47481c8407c5171c38a728b6c1307ab96af19", func := "packhorse/packhorselaw4.ValueAny", spec := "valueAny", apart := false }
def ValueAnySaid : Prop := valueAnyRow.holds Try.pinned (OpenSpec.ofChange valueAnySpec)

/-- ITS FALSE NEIGHBOUR: 'it returns false'. Refute it at one input. -/
def valueAnyWrong : ChangeSpec := { name := "valueAny", fn := fun _ => fun
  | [d1, d2, d3, d4] => { results := [.lit (.bool false)], args := [d1, d2, d3, d4] }
  | _ => none }
def ValueAnyWrongFalsely : Prop := valueAnyRow.holds Try.pinned (OpenSpec.ofChange valueAnyWrong)

/-- 'packhorselaw4.ValueMust': WHATEVER THE INPUT: true; the input reads as it did. -/
def valueMustSpec : ChangeSpec := { name := "valueMust", fn := fun _ => fun
  | [d] => { results := [.lit (.bool true)], args := [d] }
  | _ => none }
def valueMustRow : OpenClaim := { program := "ytffklbkdmfeimaa", sum := "3d1bd8fad3305211789e14b1bfb47481c8407c5171c38a728b6c1307ab96af19", func := "packhorse/packhorselaw4.ValueMust", spec := "valueMust", unfollowed := true, recurses := true, apart := false }
def ValueMustSaid : Prop := valueMustRow.holds Try.pinned (OpenSpec.ofChange valueMustSpec)

/-- ITS FALSE NEIGHBOUR: 'it returns false'. Refute it at one input. -/
def valueMustWrong : ChangeSpec := { name := "valueMust", fn := fun _ => fun
  | [d] => { results := [.lit (.bool false)], args := [d] }
  | _ => none }
def ValueMustWrongFalsely : Prop := valueMustRow.holds Try.pinned (OpenSpec.ofChange valueMustWrong)

/-- 'packhorselaw4.ValueNone': WHATEVER THE INPUT: true; the input reads as it did. -/
def valueNoneSpec : ChangeSpec := { name := "valueNone", fn := fun _ => fun
  | [] => { results := [.lit (.bool true)], args := [] }
  | _ => none }
def valueNoneRow : OpenClaim := { program := "ytffklbkdmfeimaa", sum := "3d1bd8fad3305211789e14b1bfb47481c8407c5171c38a728b6c1307ab96af19", func := "packhorse/packhorselaw4.ValueNone", spec := "valueNone", unfollowed := true, recurses := true, apart := false }
def ValueNoneSaid : Prop := valueNoneRow.holds Try.pinned (OpenSpec.ofChange valueNoneSpec)

/-- ITS FALSE NEIGHBOUR: 'it returns false'. Refute it at one input. -/
def valueNoneWrong : ChangeSpec := { name := "valueNone", fn := fun _ => fun
  | [] => { results := [.lit (.bool false)], args := [] }
  | _ => none }
def ValueNoneWrongFalsely : Prop := valueNoneRow.holds Try.pinned (OpenSpec.ofChange valueNoneWrong)

/-- 'packhorselaw4.ValueInts': WHATEVER THE INPUT: true; the input reads as it did. -/
def valueIntsSpec : ChangeSpec := { name := "valueInts", fn := fun _ => fun
  | [d] => { results := [.lit (.bool true)], args := [d] }
  | _ => none }
def valueIntsRow : OpenClaim := { program := "ytffklbkdmfeimaa", sum := "3d1bd8fad3305211789e14b1bfb47481c8407c5171c38a728b6c1307ab96af19", func := "packhorse/packhorselaw4.ValueInts", spec := "valueInts", unfollowed := true, recurses := true, apart := false }
def ValueIntsSaid : Prop := valueIntsRow.holds Try.pinned (OpenSpec.ofChange valueIntsSpec)

/-- ITS FALSE NEIGHBOUR: 'it returns false'. Refute it at one input. -/
def valueIntsWrong : ChangeSpec := { name := "valueInts", fn := fun _ => fun
  | [d] => { results := [.lit (.bool false)], args := [d] }
  | _ => none }
def ValueIntsWrongFalsely : Prop := valueIntsRow.holds Try.pinned (OpenSpec.ofChange valueIntsWrong)

/-- 'packhorselaw4.ValueTexts': WHATEVER THE INPUT: true; the input reads as it did. -/
def valueTextsSpec : ChangeSpec := { name := "valueTexts", fn := fun _ => fun
  | [d] => { results := [.lit (.bool true)], args := [d] }
  | _ => none }
def valueTextsRow : OpenClaim := { program := "ytffklbkdmfeimaa", sum := "3d1bd8fad3305211789e14b1bfb47481c8407c5171c38a728b6c1307ab96af19", func := "packhorse/packhorselaw4.ValueTexts", spec := "valueTexts", apart := false }
def ValueTextsSaid : Prop := valueTextsRow.holds Try.pinned (OpenSpec.ofChange valueTextsSpec)

/-- ITS FALSE NEIGHBOUR: 'it returns false'. Refute it at one input. -/
def valueTextsWrong : ChangeSpec := { name := "valueTexts", fn := fun _ => fun
  | [d] => { results := [.lit (.bool false)], args := [d] }
  | _ => none }
def ValueTextsWrongFalsely : Prop := valueTextsRow.holds Try.pinned (OpenSpec.ofChange valueTextsWrong)

/- THE SECOND FORM. 'bulk': how many values and letters a reading holds, each counted each time it is reached (what is shared counts as often as it is met; a slice's spare places count too). A statement '..UptoSaid' is the law's where the arguments, and the package variables that the reading takes, are together of bulk at most 1048576: NARROWER than '..Said'. Prove '..Said' where nothing that the law and all that it calls make is longer than what came in: it says more and counts as full. Else prove '..UptoSaid'. A law counts once. -/
mutual
def uptoBulk {H : Type} : DataW H → Nat
  | .lit (.string bytes) => bytes.length + 1
  | .lit _ => 1
  | .nil => 1
  | .ptr d => uptoBulk d + 1
  | .slice elems spare => uptoBulkAll elems + uptoBulkAll spare + 1
  | .agg parts => uptoBulkAll parts + 1
  | .iface _ d => uptoBulk d + 1
  | .map entries => uptoBulkEntries entries + 1
  | .held _ => 1
def uptoBulkAll {H : Type} : List (DataW H) → Nat
  | [] => 0
  | d :: r => uptoBulk d + uptoBulkAll r
def uptoBulkEntries {H : Type} : List (Lit × DataW H) → Nat
  | [] => 0
  | x :: r => uptoBulkEntry x + uptoBulkEntries r
def uptoBulkEntry {H : Type} : Lit × DataW H → Nat
  | (.string bytes, d) => bytes.length + uptoBulk d + 1
  | (_, d) => uptoBulk d + 1
 end
def uptoSmall : (H : Type) → List (DataW H) → Bool := fun _ ds => decide (uptoBulkAll ds ≤ 1048576)
def OpenSpec.upto (s : _root_.Go.ChangeSpec) : _root_.Go.OpenSpec := { _root_.Go.OpenSpec.ofChange s with cond := some uptoSmall }

/-- 'packhorselaw4.ValueAll', WHERE WHAT IT READS IS OF BULK AT MOST 1048576: true; the input reads as it did. -/
def valueAllUptoRow : OpenClaim := { program := "ytffklbkdmfeimaa", sum := "3d1bd8fad3305211789e14b1bfb47481c8407c5171c38a728b6c1307ab96af19", func := "packhorse/packhorselaw4.ValueAll", spec := "valueAll", apart := false, narrowed := true }
def ValueAllUptoSaid : Prop := valueAllUptoRow.holds Try.pinned (OpenSpec.upto valueAllSpec)

/-- 'packhorselaw4.ValueEq', WHERE WHAT IT READS IS OF BULK AT MOST 1048576: true; the input reads as it did. -/
def valueEqUptoRow : OpenClaim := { program := "ytffklbkdmfeimaa", sum := "3d1bd8fad3305211789e14b1bfb47481c8407c5171c38a728b6c1307ab96af19", func := "packhorse/packhorselaw4.ValueEq", spec := "valueEq", apart := false, narrowed := true }
def ValueEqUptoSaid : Prop := valueEqUptoRow.holds Try.pinned (OpenSpec.upto valueEqSpec)

/-- 'packhorselaw4.ValueAny', WHERE WHAT IT READS IS OF BULK AT MOST 1048576: true; the input reads as it did. -/
def valueAnyUptoRow : OpenClaim := { program := "ytffklbkdmfeimaa", sum := "3d1bd8fad3305211789e14b1bfb47481c8407c5171c38a728b6c1307ab96af19", func := "packhorse/packhorselaw4.ValueAny", spec := "valueAny", apart := false, narrowed := true }
def ValueAnyUptoSaid : Prop := valueAnyUptoRow.holds Try.pinned (OpenSpec.upto valueAnySpec)

/-- 'packhorselaw4.ValueMust', WHERE WHAT IT READS IS OF BULK AT MOST 1048576: true; the input reads as it did. -/
def valueMustUptoRow : OpenClaim := { program := "ytffklbkdmfeimaa", sum := "3d1bd8fad3305211789e14b1bfb47481c8407c5171c38a728b6c1307ab96af19", func := "packhorse/packhorselaw4.ValueMust", spec := "valueMust", unfollowed := true, recurses := true, apart := false, narrowed := true }
def ValueMustUptoSaid : Prop := valueMustUptoRow.holds Try.pinned (OpenSpec.upto valueMustSpec)

/-- 'packhorselaw4.ValueNone', WHERE WHAT IT READS IS OF BULK AT MOST 1048576: true; the input reads as it did. -/
def valueNoneUptoRow : OpenClaim := { program := "ytffklbkdmfeimaa", sum := "3d1bd8fad3305211789e14b1bfb47481c8407c5171c38a728b6c1307ab96af19", func := "packhorse/packhorselaw4.ValueNone", spec := "valueNone", unfollowed := true, recurses := true, apart := false, narrowed := true }
def ValueNoneUptoSaid : Prop := valueNoneUptoRow.holds Try.pinned (OpenSpec.upto valueNoneSpec)

/-- 'packhorselaw4.ValueInts', WHERE WHAT IT READS IS OF BULK AT MOST 1048576: true; the input reads as it did. -/
def valueIntsUptoRow : OpenClaim := { program := "ytffklbkdmfeimaa", sum := "3d1bd8fad3305211789e14b1bfb47481c8407c5171c38a728b6c1307ab96af19", func := "packhorse/packhorselaw4.ValueInts", spec := "valueInts", unfollowed := true, recurses := true, apart := false, narrowed := true }
def ValueIntsUptoSaid : Prop := valueIntsUptoRow.holds Try.pinned (OpenSpec.upto valueIntsSpec)

/-- 'packhorselaw4.ValueTexts', WHERE WHAT IT READS IS OF BULK AT MOST 1048576: true; the input reads as it did. -/
def valueTextsUptoRow : OpenClaim := { program := "ytffklbkdmfeimaa", sum := "3d1bd8fad3305211789e14b1bfb47481c8407c5171c38a728b6c1307ab96af19", func := "packhorse/packhorselaw4.ValueTexts", spec := "valueTexts", apart := false, narrowed := true }
def ValueTextsUptoSaid : Prop := valueTextsUptoRow.holds Try.pinned (OpenSpec.upto valueTextsSpec)

end Rows
end Go.Proofs.Ytffklbkdmfeimaa
