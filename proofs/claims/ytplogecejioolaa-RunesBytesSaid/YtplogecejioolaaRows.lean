/-
  No cell of these rows narrows 'for every input' (looked for: loops, veiled, ifaces, maps, wideKeys, modest, calm, conditions, laid).
  DERIVED. THE GIVEN ROWS OF THIS SEAT. 9 by the template 'for every input the law returns true; each argument reads behind the call as it read before'; 0 by the template 'total and deterministic' (their statements: YtplogecejioolaaTotals.lean).
  GIVEN WITH THE SEED: the statements are not yours to turn. If you find one false, say at which input.
  Laid BY PROGRAM, IN A SANDBOX (cutbox-rows.mjs): the forced cells as the released guide's own fill.sh prints them over the translation a120706a88e93d47… (all of the seat's roots in one cut). By AI agents, Wed Nov 11 2026. No macro, syntax, notation, axiom, sorry.
-/
import Derived.Test.YtplogecejioolaaChecked
import GoSem.Claim
import GoSem.ClaimJoined
import GoSem.ClaimMapViews
import Derived.JoinedTies
import Derived.KernelRfl
namespace Go.Proofs.Ytplogecejioolaa
/- THE CELL 'sum', in the pinned program and in every row, IS THE sha256 OF THE DUMP (.gsa) THAT YtplogecejioolaaProg.lean LOADS. Nothing in Lean hashes anything: it is a label: what it is worth is what the hold of that sum in a sandbox is worth. -/
noncomputable def Try.pinned : Pinned := { name := "ytplogecejioolaa", sum := "a120706a88e93d47a6688cfed02e1d1caf480852f9bc3b179a6d184a33aebf1e", checked := Try.checked }
namespace Rows
def none {H : Type} : Left H := { results := [], args := [] }

/-- 'packhorselaw1.RunesText': WHATEVER THE INPUT: true; the input reads as it did. -/
def runesTextSpec : ChangeSpec := { name := "runesText", fn := fun _ => fun
  | [d1, d2] => { results := [.lit (.bool true)], args := [d1, d2] }
  | _ => none }
def runesTextRow : OpenClaim := { program := "ytplogecejioolaa", sum := "a120706a88e93d47a6688cfed02e1d1caf480852f9bc3b179a6d184a33aebf1e", func := "packhorse/packhorselaw1.RunesText", spec := "runesText", inPlace := ["internal/abi.NoEscape"], apart := false }
def RunesTextSaid : Prop := runesTextRow.holds Try.pinned (OpenSpec.ofChange runesTextSpec)

/-- ITS FALSE NEIGHBOUR: 'it returns false'. Refute it at one input. -/
def runesTextWrong : ChangeSpec := { name := "runesText", fn := fun _ => fun
  | [d1, d2] => { results := [.lit (.bool false)], args := [d1, d2] }
  | _ => none }
def RunesTextWrongFalsely : Prop := runesTextRow.holds Try.pinned (OpenSpec.ofChange runesTextWrong)

/-- 'packhorselaw1.RunesOne': WHATEVER THE INPUT: true; the input reads as it did. -/
def runesOneSpec : ChangeSpec := { name := "runesOne", fn := fun _ => fun
  | [d] => { results := [.lit (.bool true)], args := [d] }
  | _ => none }
def runesOneRow : OpenClaim := { program := "ytplogecejioolaa", sum := "a120706a88e93d47a6688cfed02e1d1caf480852f9bc3b179a6d184a33aebf1e", func := "packhorse/packhorselaw1.RunesOne", spec := "runesOne", inPlace := ["internal/abi.NoEscape"], apart := false }
def RunesOneSaid : Prop := runesOneRow.holds Try.pinned (OpenSpec.ofChange runesOneSpec)

/-- ITS FALSE NEIGHBOUR: 'it returns false'. Refute it at one input. -/
def runesOneWrong : ChangeSpec := { name := "runesOne", fn := fun _ => fun
  | [d] => { results := [.lit (.bool false)], args := [d] }
  | _ => none }
def RunesOneWrongFalsely : Prop := runesOneRow.holds Try.pinned (OpenSpec.ofChange runesOneWrong)

/-- 'packhorselaw1.RunesOrder': WHATEVER THE INPUT: true; the input reads as it did. -/
def runesOrderSpec : ChangeSpec := { name := "runesOrder", fn := fun _ => fun
  | [d1, d2, d3] => { results := [.lit (.bool true)], args := [d1, d2, d3] }
  | _ => none }
def runesOrderRow : OpenClaim := { program := "ytplogecejioolaa", sum := "a120706a88e93d47a6688cfed02e1d1caf480852f9bc3b179a6d184a33aebf1e", func := "packhorse/packhorselaw1.RunesOrder", spec := "runesOrder", inPlace := ["internal/abi.NoEscape"], apart := false }
def RunesOrderSaid : Prop := runesOrderRow.holds Try.pinned (OpenSpec.ofChange runesOrderSpec)

/-- ITS FALSE NEIGHBOUR: 'it returns false'. Refute it at one input. -/
def runesOrderWrong : ChangeSpec := { name := "runesOrder", fn := fun _ => fun
  | [d1, d2, d3] => { results := [.lit (.bool false)], args := [d1, d2, d3] }
  | _ => none }
def RunesOrderWrongFalsely : Prop := runesOrderRow.holds Try.pinned (OpenSpec.ofChange runesOrderWrong)

/-- 'packhorselaw1.RunesFold': WHATEVER THE INPUT: true; the input reads as it did. -/
def runesFoldSpec : ChangeSpec := { name := "runesFold", fn := fun _ => fun
  | [d] => { results := [.lit (.bool true)], args := [d] }
  | _ => none }
def runesFoldRow : OpenClaim := { program := "ytplogecejioolaa", sum := "a120706a88e93d47a6688cfed02e1d1caf480852f9bc3b179a6d184a33aebf1e", func := "packhorse/packhorselaw1.RunesFold", spec := "runesFold", inPlace := ["internal/abi.NoEscape"], apart := false }
def RunesFoldSaid : Prop := runesFoldRow.holds Try.pinned (OpenSpec.ofChange runesFoldSpec)

/-- ITS FALSE NEIGHBOUR: 'it returns false'. Refute it at one input. -/
def runesFoldWrong : ChangeSpec := { name := "runesFold", fn := fun _ => fun
  | [d] => { results := [.lit (.bool false)], args := [d] }
  | _ => none }
def RunesFoldWrongFalsely : Prop := runesFoldRow.holds Try.pinned (OpenSpec.ofChange runesFoldWrong)

/-- 'packhorselaw1.RunesParts': WHATEVER THE INPUT: true; the input reads as it did. -/
def runesPartsSpec : ChangeSpec := { name := "runesParts", fn := fun _ => fun
  | [d1, d2] => { results := [.lit (.bool true)], args := [d1, d2] }
  | _ => none }
def runesPartsRow : OpenClaim := { program := "ytplogecejioolaa", sum := "a120706a88e93d47a6688cfed02e1d1caf480852f9bc3b179a6d184a33aebf1e", func := "packhorse/packhorselaw1.RunesParts", spec := "runesParts", inPlace := ["internal/abi.NoEscape"], apart := false }
def RunesPartsSaid : Prop := runesPartsRow.holds Try.pinned (OpenSpec.ofChange runesPartsSpec)

/-- ITS FALSE NEIGHBOUR: 'it returns false'. Refute it at one input. -/
def runesPartsWrong : ChangeSpec := { name := "runesParts", fn := fun _ => fun
  | [d1, d2] => { results := [.lit (.bool false)], args := [d1, d2] }
  | _ => none }
def RunesPartsWrongFalsely : Prop := runesPartsRow.holds Try.pinned (OpenSpec.ofChange runesPartsWrong)

/-- 'packhorselaw1.RunesBytes': WHATEVER THE INPUT: true; the input reads as it did. -/
def runesBytesSpec : ChangeSpec := { name := "runesBytes", fn := fun _ => fun
  | [d1, d2, d3, d4] => { results := [.lit (.bool true)], args := [d1, d2, d3, d4] }
  | _ => none }
def runesBytesRow : OpenClaim := { program := "ytplogecejioolaa", sum := "a120706a88e93d47a6688cfed02e1d1caf480852f9bc3b179a6d184a33aebf1e", func := "packhorse/packhorselaw1.RunesBytes", spec := "runesBytes", inPlace := ["internal/abi.NoEscape"], apart := false }
def RunesBytesSaid : Prop := runesBytesRow.holds Try.pinned (OpenSpec.ofChange runesBytesSpec)

/-- ITS FALSE NEIGHBOUR: 'it returns false'. Refute it at one input. -/
def runesBytesWrong : ChangeSpec := { name := "runesBytes", fn := fun _ => fun
  | [d1, d2, d3, d4] => { results := [.lit (.bool false)], args := [d1, d2, d3, d4] }
  | _ => none }
def RunesBytesWrongFalsely : Prop := runesBytesRow.holds Try.pinned (OpenSpec.ofChange runesBytesWrong)

/-- 'packhorselaw1.RunesKeys': WHATEVER THE INPUT: true; the input reads as it did. -/
def runesKeysSpec : ChangeSpec := { name := "runesKeys", fn := fun _ => fun
  | [d1, d2] => { results := [.lit (.bool true)], args := [d1, d2] }
  | _ => none }
def runesKeysRow : OpenClaim := { program := "ytplogecejioolaa", sum := "a120706a88e93d47a6688cfed02e1d1caf480852f9bc3b179a6d184a33aebf1e", func := "packhorse/packhorselaw1.RunesKeys", spec := "runesKeys", inPlace := ["internal/abi.NoEscape"], apart := false }
def RunesKeysSaid : Prop := runesKeysRow.holds Try.pinned (OpenSpec.ofChange runesKeysSpec)

/-- ITS FALSE NEIGHBOUR: 'it returns false'. Refute it at one input. -/
def runesKeysWrong : ChangeSpec := { name := "runesKeys", fn := fun _ => fun
  | [d1, d2] => { results := [.lit (.bool false)], args := [d1, d2] }
  | _ => none }
def RunesKeysWrongFalsely : Prop := runesKeysRow.holds Try.pinned (OpenSpec.ofChange runesKeysWrong)

/-- 'packhorselaw1.RunesBad': WHATEVER THE INPUT: true; the input reads as it did. -/
def runesBadSpec : ChangeSpec := { name := "runesBad", fn := fun _ => fun
  | [d1, d2, d3] => { results := [.lit (.bool true)], args := [d1, d2, d3] }
  | _ => none }
def runesBadRow : OpenClaim := { program := "ytplogecejioolaa", sum := "a120706a88e93d47a6688cfed02e1d1caf480852f9bc3b179a6d184a33aebf1e", func := "packhorse/packhorselaw1.RunesBad", spec := "runesBad", inPlace := ["internal/abi.NoEscape"], apart := false }
def RunesBadSaid : Prop := runesBadRow.holds Try.pinned (OpenSpec.ofChange runesBadSpec)

/-- ITS FALSE NEIGHBOUR: 'it returns false'. Refute it at one input. -/
def runesBadWrong : ChangeSpec := { name := "runesBad", fn := fun _ => fun
  | [d1, d2, d3] => { results := [.lit (.bool false)], args := [d1, d2, d3] }
  | _ => none }
def RunesBadWrongFalsely : Prop := runesBadRow.holds Try.pinned (OpenSpec.ofChange runesBadWrong)

/-- 'packhorselaw1.RunesJoin': WHATEVER THE INPUT: true; the input reads as it did. -/
def runesJoinSpec : ChangeSpec := { name := "runesJoin", fn := fun _ => fun
  | [d1, d2] => { results := [.lit (.bool true)], args := [d1, d2] }
  | _ => none }
def runesJoinRow : OpenClaim := { program := "ytplogecejioolaa", sum := "a120706a88e93d47a6688cfed02e1d1caf480852f9bc3b179a6d184a33aebf1e", func := "packhorse/packhorselaw1.RunesJoin", spec := "runesJoin", inPlace := ["internal/abi.NoEscape"], apart := false }
def RunesJoinSaid : Prop := runesJoinRow.holds Try.pinned (OpenSpec.ofChange runesJoinSpec)

/-- ITS FALSE NEIGHBOUR: 'it returns false'. Refute it at one input. -/
def runesJoinWrong : ChangeSpec := { name := "runesJoin", fn := fun _ => fun
  | [d1, d2] => { results := [.lit (.bool false)], args := [d1, d2] }
  | _ => none }
def RunesJoinWrongFalsely : Prop := runesJoinRow.holds Try.pinned (OpenSpec.ofChange runesJoinWrong)

/- THE SECOND FORM. 'bulk': how many values and letters a reading holds, each counted each time it is reached (what is shared counts as often as it is met; a slice's spare places count too). A statement '..UptoSaid' is the law's where the arguments, and the package variables that the reading takes, are together of bulk at most 1048576: NARROWER than '..Said'. Prove '..Said' where nothing that the law and all that it calls make is longer than what came in: it says more and counts as full. Else prove '..UptoSaid'. A law counts once. -/
mutual
def uptoBulk {H : Type} : DataW H → Nat
  | .lit (.string bytes) => bytes.length + 1
  | .lit _ => 1
  | .nil => 1
  | .ptr d => uptoBulk d + 1
  | .slice elems spare => uptoBulkAll elems + uptoBulkAll spare + 1
  | .agg parts => uptoBulkAll parts + 1
  | .iface _ d => uptoBulk d + 1
  | .map entries => uptoBulkEntries entries + 1
  | .held _ => 1
def uptoBulkAll {H : Type} : List (DataW H) → Nat
  | [] => 0
  | d :: r => uptoBulk d + uptoBulkAll r
def uptoBulkEntries {H : Type} : List (Lit × DataW H) → Nat
  | [] => 0
  | x :: r => uptoBulkEntry x + uptoBulkEntries r
def uptoBulkEntry {H : Type} : Lit × DataW H → Nat
  | (.string bytes, d) => bytes.length + uptoBulk d + 1
  | (_, d) => uptoBulk d + 1
 end
def uptoSmall : (H : Type) → List (DataW H) → Bool := fun _ ds => decide (uptoBulkAll ds ≤ 1048576)
def OpenSpec.upto (s : _root_.Go.ChangeSpec) : _root_.Go.OpenSpec := { _root_.Go.OpenSpec.ofChange s with cond := some uptoSmall }

/-- 'packhorselaw1.RunesText', WHERE WHAT IT READS IS OF BULK AT MOST 1048576: true; the input reads as it did. -/
def runesTextUptoRow : OpenClaim := { program := "ytplogecejioolaa", sum := "a120706a88e93d47a6688cfed02e1d1caf480852f9bc3b179a6d184a33aebf1e", func := "packhorse/packhorselaw1.RunesText", spec := "runesText", inPlace := ["internal/abi.NoEscape"], apart := false, narrowed := true }
def RunesTextUptoSaid : Prop := runesTextUptoRow.holds Try.pinned (OpenSpec.upto runesTextSpec)

/-- 'packhorselaw1.RunesOne', WHERE WHAT IT READS IS OF BULK AT MOST 1048576: true; the input reads as it did. -/
def runesOneUptoRow : OpenClaim := { program := "ytplogecejioolaa", sum := "a120706a88e93d47a6688cfed02e1d1caf480852f9bc3b179a6d184a33aebf1e", func := "packhorse/packhorselaw1.RunesOne", spec := "runesOne", inPlace := ["internal/abi.NoEscape"], apart := false, narrowed := true }
def RunesOneUptoSaid : Prop := runesOneUptoRow.holds Try.pinned (OpenSpec.upto runesOneSpec)

/-- 'packhorselaw1.RunesOrder', WHERE WHAT IT READS IS OF BULK AT MOST 1048576: true; the input reads as it did. -/
def runesOrderUptoRow : OpenClaim := { program := "ytplogecejioolaa", sum := "a120706a88e93d47a6688cfed02e1d1caf480852f9bc3b179a6d184a33aebf1e", func := "packhorse/packhorselaw1.RunesOrder", spec := "runesOrder", inPlace := ["internal/abi.NoEscape"], apart := false, narrowed := true }
def RunesOrderUptoSaid : Prop := runesOrderUptoRow.holds Try.pinned (OpenSpec.upto runesOrderSpec)

/-- 'packhorselaw1.RunesFold', WHERE WHAT IT READS IS OF BULK AT MOST 1048576: true; the input reads as it did. -/
def runesFoldUptoRow : OpenClaim := { program := "ytplogecejioolaa", sum := "a120706a88e93d47a6688cfed02e1d1caf480852f9bc3b179a6d184a33aebf1e", func := "packhorse/packhorselaw1.RunesFold", spec := "runesFold", inPlace := ["internal/abi.NoEscape"], apart := false, narrowed := true }
def RunesFoldUptoSaid : Prop := runesFoldUptoRow.holds Try.pinned (OpenSpec.upto runesFoldSpec)

/-- 'packhorselaw1.RunesParts', WHERE WHAT IT READS IS OF BULK AT MOST 1048576: true; the input reads as it did. -/
def runesPartsUptoRow : OpenClaim := { program := "ytplogecejioolaa", sum := "a120706a88e93d47a6688cfed02e1d1caf480852f9bc3b179a6d184a33aebf1e", func := "packhorse/packhorselaw1.RunesParts", spec := "runesParts", inPlace := ["internal/abi.NoEscape"], apart := false, narrowed := true }
def RunesPartsUptoSaid : Prop := runesPartsUptoRow.holds Try.pinned (OpenSpec.upto runesPartsSpec)

/-- 'packhorselaw1.RunesBytes', WHERE WHAT IT READS IS OF BULK AT MOST 1048576: true; the input reads as it did. -/
def runesBytesUptoRow : OpenClaim := { program := "ytplogecejioolaa", sum := "a120706a88e93d47a6688cfed02e1d1caf480852f9bc3b179a6d184a33aebf1e", func := "packhorse/packhorselaw1.RunesBytes", spec := "runesBytes", inPlace := ["internal/abi.NoEscape"], apart := false, narrowed := true }
def RunesBytesUptoSaid : Prop := runesBytesUptoRow.holds Try.pinned (OpenSpec.upto runesBytesSpec)

/-- 'packhorselaw1.RunesKeys', WHERE WHAT IT READS IS OF BULK AT MOST 1048576: true; the input reads as it did. -/
def runesKeysUptoRow : OpenClaim := { program := "ytplogecejioolaa", sum := "a120706a88e93d47a6688cfed02e1d1caf480852f9bc3b179a6d184a33aebf1e", func := "packhorse/packhorselaw1.RunesKeys", spec := "runesKeys", inPlace := ["internal/abi.NoEscape"], apart := false, narrowed := true }
def RunesKeysUptoSaid : Prop := runesKeysUptoRow.holds Try.pinned (OpenSpec.upto runesKeysSpec)

/-- 'packhorselaw1.RunesBad', WHERE WHAT IT READS IS OF BULK AT MOST 1048576: true; the input reads as it did. -/
def runesBadUptoRow : OpenClaim := { program := "ytplogecejioolaa", sum := "a120706a88e93d47a6688cfed02e1d1caf480852f9bc3b179a6d184a33aebf1e", func := "packhorse/packhorselaw1.RunesBad", spec := "runesBad", inPlace := ["internal/abi.NoEscape"], apart := false, narrowed := true }
def RunesBadUptoSaid : Prop := runesBadUptoRow.holds Try.pinned (OpenSpec.upto runesBadSpec)

/-- 'packhorselaw1.RunesJoin', WHERE WHAT IT READS IS OF BULK AT MOST 1048576: true; the input reads as it did. -/
def runesJoinUptoRow : OpenClaim := { program := "ytplogecejioolaa", sum := "a120706a88e93d47a6688cfed02e1d1caf480852f9bc3b179a6d184a33aebf1e", func := "packhorse/packhorselaw1.RunesJoin", spec := "runesJoin", inPlace := ["internal/abi.NoEscape"], apart := false, narrowed := true }
def RunesJoinUptoSaid : Prop := runesJoinUptoRow.holds Try.pinned (OpenSpec.upto runesJoinSpec)

end Rows
end Go.Proofs.Ytplogecejioolaa
