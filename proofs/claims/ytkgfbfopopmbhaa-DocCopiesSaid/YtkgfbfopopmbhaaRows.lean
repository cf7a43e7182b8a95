/-
  No cell of these rows narrows 'for every input' (looked for: loops, veiled, ifaces, maps, wideKeys, modest, calm, conditions, laid).
  DERIVED. THE GIVEN ROWS OF THIS SEAT. 9 by the template 'for every input the law returns true; each argument reads behind the call as it read before'; 0 by the template 'total and deterministic' (their statements: YtkgfbfopopmbhaaTotals.lean).
  GIVEN WITH THE SEED: the statements are not yours to turn. If you find one false, say at which input.
  Laid BY PROGRAM, IN A SANDBOX (cutbox-rows.mjs): the forced cells as the released guide's own fill.sh prints them over the translation 010383012e6ab642… (all of the seat's roots in one cut). By AI agents, Wed Nov 11 2026. No macro, syntax, notation, axiom, sorry.
-/
import Derived.Test.YtkgfbfopopmbhaaChecked
import GoSem.Claim
import GoSem.ClaimJoined
import GoSem.ClaimMapViews
import Derived.JoinedTies
import Derived.KernelRfl
namespace Go.Proofs.Ytkgfbfopopmbhaa
/- THE CELL 'sum', in the pinned program and in every row, IS THE sha256 OF THE DUMP (.gsa) THAT YtkgfbfopopmbhaaProg.lean LOADS. Nothing in Lean hashes anything: it is a label: what it is worth is what the hold of that sum in a sandbox is worth. -/
noncomputable def Try.pinned : Pinned := { name := "ytkgfbfopopmbhaa", sum := "010383012e6ab642621c51fb17d6a94cade10fa0ca3c123b9dbd7e2e8527f9f3", checked := Try.checked }
namespace Rows
def none {H : Type} : Left H := { results := [], args := [] }

/-- 'packhorselaw6.DocAll': WHATEVER THE INPUT: true; the input reads as it did. -/
def docAllSpec : ChangeSpec := { name := "docAll", fn := fun _ => fun
  | [d] => { results := [.lit (.bool true)], args := [d] }
  | _ => none }
def docAllRow : OpenClaim := { program := "ytkgfbfopopmbhaa", sum := "010383012e6ab642621c51fb17d6a94cade10fa0ca3c123b9dbd7e2e8527f9f3", func := "packhorse/packhorselaw6.DocAll", spec := "docAll", inPlace := ["slices.overlaps[packhorse/doc.row]"], unfollowed := true, recurses := true, apart := false }
def DocAllSaid : Prop := docAllRow.holds Try.pinned (OpenSpec.ofChange docAllSpec)

/-- ITS FALSE NEIGHBOUR: 'it returns false'. Refute it at one input. -/
def docAllWrong : ChangeSpec := { name := "docAll", fn := fun _ => fun
  | [d] => { results := [.lit (.bool false)], args := [d] }
  | _ => none }
def DocAllWrongFalsely : Prop := docAllRow.holds Try.pinned (OpenSpec.ofChange docAllWrong)

/-- 'packhorselaw6.DocBytes': WHATEVER THE INPUT: true; the input reads as it did. -/
def docBytesSpec : ChangeSpec := { name := "docBytes", fn := fun _ => fun
  | [d1, d2, d3, d4] => { results := [.lit (.bool true)], args := [d1, d2, d3, d4] }
  | _ => none }
def docBytesRow : OpenClaim := { program := "ytkgfbfopopmbhaa", sum := "010383012e6ab642621c51fb17d6a94cade10fa0ca3c123b9dbd7e2e8527f9f3", func := "packhorse/packhorselaw6.DocBytes", spec := "docBytes", inPlace := ["slices.overlaps[packhorse/doc.row]"], unfollowed := true, recurses := true, apart := false }
def DocBytesSaid : Prop := docBytesRow.holds Try.pinned (OpenSpec.ofChange docBytesSpec)

/-- ITS FALSE NEIGHBOUR: 'it returns false'. Refute it at one input. -/
def docBytesWrong : ChangeSpec := { name := "docBytes", fn := fun _ => fun
  | [d1, d2, d3, d4] => { results := [.lit (.bool false)], args := [d1, d2, d3, d4] }
  | _ => none }
def DocBytesWrongFalsely : Prop := docBytesRow.holds Try.pinned (OpenSpec.ofChange docBytesWrong)

/-- 'packhorselaw6.DocCopies': WHATEVER THE INPUT: true; the input reads as it did. -/
def docCopiesSpec : ChangeSpec := { name := "docCopies", fn := fun _ => fun
  | [d1, d2] => { results := [.lit (.bool true)], args := [d1, d2] }
  | _ => none }
def docCopiesRow : OpenClaim := { program := "ytkgfbfopopmbhaa", sum := "010383012e6ab642621c51fb17d6a94cade10fa0ca3c123b9dbd7e2e8527f9f3", func := "packhorse/packhorselaw6.DocCopies", spec := "docCopies", inPlace := ["slices.overlaps[packhorse/doc.row]"], unfollowed := true, recurses := true, apart := false }
def DocCopiesSaid : Prop := docCopiesRow.holds Try.pinned (OpenSpec.ofChange docCopiesSpec)

/-- ITS FALSE NEIGHBOUR: 'it returns false'. Refute it at one input. -/
def docCopiesWrong : ChangeSpec := { name := "docCopies", fn := fun _ => fun
  | [d1, d2] => { results := [.lit (.bool false)], args := [d1, d2] }
  | _ => none }
def DocCopiesWrongFalsely : Prop := docCopiesRow.holds Try.pinned (OpenSpec.ofChange docCopiesWrong)

/-- 'packhorselaw6.DocEnds': WHATEVER THE INPUT: true; the input reads as it did. -/
def docEndsSpec : ChangeSpec := { name := "docEnds", fn := fun _ => fun
  | [d1, d2, d3] => { results := [.lit (.bool true)], args := [d1, d2, d3] }
  | _ => none }
def docEndsRow : OpenClaim := { program := "ytkgfbfopopmbhaa", sum := "010383012e6ab642621c51fb17d6a94cade10fa0ca3c123b9dbd7e2e8527f9f3", func := "packhorse/packhorselaw6.DocEnds", spec := "docEnds", inPlace := ["slices.overlaps[packhorse/doc.row]"], unfollowed := true, recurses := true, apart := false }
def DocEndsSaid : Prop := docEndsRow.holds Try.pinned (OpenSpec.ofChange docEndsSpec)

/-- ITS FALSE NEIGHBOUR: 'it returns false'. Refute it at one input. -/
def docEndsWrong : ChangeSpec := { name := "docEnds", fn := fun _ => fun
  | [d1, d2, d3] => { results := [.lit (.bool false)], args := [d1, d2, d3] }
  | _ => none }
def DocEndsWrongFalsely : Prop := docEndsRow.holds Try.pinned (OpenSpec.ofChange docEndsWrong)

/-- 'packhorselaw6.DocNone': WHATEVER THE INPUT: true; the input reads as it did. -/
def docNoneSpec : ChangeSpec := { name := "docNone", fn := fun _ => fun
  | [] => { results := [.lit (.bool true)], args := [] }
  | _ => none }
def docNoneRow : OpenClaim := { program := "ytkgfbfopopmbhaa", sum := "010383012e6ab642621c51fb17d6a94cade10fa0ca3c123b9dbd7e2e8527f9f3", func := "packhorse/packhorselaw6.DocNone", spec := "docNone", inPlace := ["slices.overlaps[packhorse/doc.row]"], unfollowed := true, recurses := true, apart := false }
def DocNoneSaid : Prop := docNoneRow.holds Try.pinned (OpenSpec.ofChange docNoneSpec)

/-- ITS FALSE NEIGHBOUR: 'it returns false'. Refute it at one input. -/
def docNoneWrong : ChangeSpec := { name := "docNone", fn := fun _ => fun
  | [] => { results := [.lit (.bool false)], args := [] }
  | _ => none }
def DocNoneWrongFalsely : Prop := docNoneRow.holds Try.pinned (OpenSpec.ofChange docNoneWrong)

/-- 'packhorselaw6.DocWhole': WHATEVER THE INPUT: true; the input reads as it did. -/
def docWholeSpec : ChangeSpec := { name := "docWhole", fn := fun _ => fun
  | [d1, d2, d3] => { results := [.lit (.bool true)], args := [d1, d2, d3] }
  | _ => none }
def docWholeRow : OpenClaim := { program := "ytkgfbfopopmbhaa", sum := "010383012e6ab642621c51fb17d6a94cade10fa0ca3c123b9dbd7e2e8527f9f3", func := "packhorse/packhorselaw6.DocWhole", spec := "docWhole", inPlace := ["slices.overlaps[packhorse/doc.row]"], unfollowed := true, recurses := true, apart := false }
def DocWholeSaid : Prop := docWholeRow.holds Try.pinned (OpenSpec.ofChange docWholeSpec)

/-- ITS FALSE NEIGHBOUR: 'it returns false'. Refute it at one input. -/
def docWholeWrong : ChangeSpec := { name := "docWhole", fn := fun _ => fun
  | [d1, d2, d3] => { results := [.lit (.bool false)], args := [d1, d2, d3] }
  | _ => none }
def DocWholeWrongFalsely : Prop := docWholeRow.holds Try.pinned (OpenSpec.ofChange docWholeWrong)

/-- 'packhorselaw6.DocOrder': WHATEVER THE INPUT: true; the input reads as it did. -/
def docOrderSpec : ChangeSpec := { name := "docOrder", fn := fun _ => fun
  | [d1, d2] => { results := [.lit (.bool true)], args := [d1, d2] }
  | _ => none }
def docOrderRow : OpenClaim := { program := "ytkgfbfopopmbhaa", sum := "010383012e6ab642621c51fb17d6a94cade10fa0ca3c123b9dbd7e2e8527f9f3", func := "packhorse/packhorselaw6.DocOrder", spec := "docOrder", inPlace := ["slices.overlaps[packhorse/doc.row]"], unfollowed := true, recurses := true, apart := false }
def DocOrderSaid : Prop := docOrderRow.holds Try.pinned (OpenSpec.ofChange docOrderSpec)

/-- ITS FALSE NEIGHBOUR: 'it returns false'. Refute it at one input. -/
def docOrderWrong : ChangeSpec := { name := "docOrder", fn := fun _ => fun
  | [d1, d2] => { results := [.lit (.bool false)], args := [d1, d2] }
  | _ => none }
def DocOrderWrongFalsely : Prop := docOrderRow.holds Try.pinned (OpenSpec.ofChange docOrderWrong)

/-- 'packhorselaw6.DocBack': WHATEVER THE INPUT: true; the input reads as it did. -/
def docBackSpec : ChangeSpec := { name := "docBack", fn := fun _ => fun
  | [d1, d2] => { results := [.lit (.bool true)], args := [d1, d2] }
  | _ => none }
def docBackRow : OpenClaim := { program := "ytkgfbfopopmbhaa", sum := "010383012e6ab642621c51fb17d6a94cade10fa0ca3c123b9dbd7e2e8527f9f3", func := "packhorse/packhorselaw6.DocBack", spec := "docBack", inPlace := ["slices.overlaps[packhorse/doc.row]"], unfollowed := true, recurses := true, apart := false }
def DocBackSaid : Prop := docBackRow.holds Try.pinned (OpenSpec.ofChange docBackSpec)

/-- ITS FALSE NEIGHBOUR: 'it returns false'. Refute it at one input. -/
def docBackWrong : ChangeSpec := { name := "docBack", fn := fun _ => fun
  | [d1, d2] => { results := [.lit (.bool false)], args := [d1, d2] }
  | _ => none }
def DocBackWrongFalsely : Prop := docBackRow.holds Try.pinned (OpenSpec.ofChange docBackWrong)

/-- 'packhorselaw6.DocOwn': WHATEVER THE INPUT: true; the input reads as it did. -/
def docOwnSpec : ChangeSpec := { name := "docOwn", fn := fun _ => fun
  | [d] => { results := [.lit (.bool true)], args := [d] }
  | _ => none }
def docOwnRow : OpenClaim := { program := "ytkgfbfopopmbhaa", sum := "010383012e6ab642621c51fb17d6a94cade10fa0ca3c123b9dbd7e2e8527f9f3", func := "packhorse/packhorselaw6.DocOwn", spec := "docOwn", inPlace := ["slices.overlaps[packhorse/doc.row]"], unfollowed := true, recurses := true, apart := false }
def DocOwnSaid : Prop := docOwnRow.holds Try.pinned (OpenSpec.ofChange docOwnSpec)

/-- ITS FALSE NEIGHBOUR: 'it returns false'. Refute it at one input. -/
def docOwnWrong : ChangeSpec := { name := "docOwn", fn := fun _ => fun
  | [d] => { results := [.lit (.bool false)], args := [d] }
  | _ => none }
def DocOwnWrongFalsely : Prop := docOwnRow.holds Try.pinned (OpenSpec.ofChange docOwnWrong)

/- THE SECOND FORM. 'bulk': how many values and letters a reading holds, each counted each time it is reached (what is shared counts as often as it is met; a slice's spare places count too). A statement '..UptoSaid' is the law's where the arguments, and the package variables that the reading takes, are together of bulk at most 1048576: NARROWER than '..Said'. Prove '..Said' where nothing that the law and all that it calls make is longer than what came in: it says more and counts as full. Else prove '..UptoSaid'. A law counts once. -/
mutual
def uptoBulk {H : Type} : DataW H → Nat
  | .lit (.string bytes) => bytes.length + 1
  | .lit _ => 1
  | .nil => 1
  | .ptr d => uptoBulk d + 1
  | .slice elems spare => uptoBulkAll elems + uptoBulkAll spare + 1
  | .agg parts => uptoBulkAll parts + 1
  | .iface _ d => uptoBulk d + 1
  | .map entries => uptoBulkEntries entries + 1
  | .held _ => 1
def uptoBulkAll {H : Type} : List (DataW H) → Nat
  | [] => 0
  | d :: r => uptoBulk d + uptoBulkAll r
def uptoBulkEntries {H : Type} : List (Lit × DataW H) → Nat
  | [] => 0
  | x :: r => uptoBulkEntry x + uptoBulkEntries r
def uptoBulkEntry {H : Type} : Lit × DataW H → Nat
  | (.string bytes, d) => bytes.length + uptoBulk d + 1
  | (_, d) => uptoBulk d + 1
 end
def uptoSmall : (H : Type) → List (DataW H) → Bool := fun _ ds => decide (uptoBulkAll ds ≤ 1048576)
def OpenSpec.upto (s : _root_.Go.ChangeSpec) : _root_.Go.OpenSpec := { _root_.Go.OpenSpec.ofChange s with cond := some uptoSmall }

/-- 'packhorselaw6.DocAll', WHERE WHAT IT READS IS OF BULK AT MOST 1048576: true; the input reads as it did. -/
def docAllUptoRow : OpenClaim := { program := "ytkgfbfopopmbhaa", sum := "010383012e6ab642621c51fb17d6a94cade10fa0ca3c123b9dbd7e2e8527f9f3", func := "packhorse/packhorselaw6.DocAll", spec := "docAll", inPlace := ["slices.overlaps[packhorse/doc.row]"], unfollowed := true, recurses := true, apart := false, narrowed := true }
def DocAllUptoSaid : Prop := docAllUptoRow.holds Try.pinned (OpenSpec.upto docAllSpec)

/-- 'packhorselaw6.DocBytes', WHERE WHAT IT READS IS OF BULK AT MOST 1048576: true; the input reads as it did. -/
def docBytesUptoRow : OpenClaim := { program := "ytkgfbfopopmbhaa", sum := "010383012e6ab642621c51fb17d6a94cade10fa0ca3c123b9dbd7e2e8527f9f3", func := "packhorse/packhorselaw6.DocBytes", spec := "docBytes", inPlace := ["slices.overlaps[packhorse/doc.row]"], unfollowed := true, recurses := true, apart := false, narrowed := true }
def DocBytesUptoSaid : Prop := docBytesUptoRow.holds Try.pinned (OpenSpec.upto docBytesSpec)

/-- 'packhorselaw6.DocCopies', WHERE WHAT IT READS IS OF BULK AT MOST 1048576: true; the input reads as it did. -/
def docCopiesUptoRow : OpenClaim := { program := "ytkgfbfopopmbhaa", sum := "010383012e6ab642621c51fb17d6a94cade10fa0ca3c123b9dbd7e2e8527f9f3", func := "packhorse/packhorselaw6.DocCopies", spec := "docCopies", inPlace := ["slices.overlaps[packhorse/doc.row]"], unfollowed := true, recurses := true, apart := false, narrowed := true }
def DocCopiesUptoSaid : Prop := docCopiesUptoRow.holds Try.pinned (OpenSpec.upto docCopiesSpec)

/-- 'packhorselaw6.DocEnds', WHERE WHAT IT READS IS OF BULK AT MOST 1048576: true; the input reads as it did. -/
def docEndsUptoRow : OpenClaim := { program := "ytkgfbfopopmbhaa", sum := "010383012e6ab642621c51fb17d6a94cade10fa0ca3c123b9dbd7e2e8527f9f3", func := "packhorse/packhorselaw6.DocEnds", spec := "docEnds", inPlace := ["slices.overlaps[packhorse/doc.row]"], unfollowed := true, recurses := true, apart := false, narrowed := true }
def DocEndsUptoSaid : Prop := docEndsUptoRow.holds Try.pinned (OpenSpec.upto docEndsSpec)

/-- 'packhorselaw6.DocNone', WHERE WHAT IT READS IS OF BULK AT MOST 1048576: true; the input reads as it did. -/
def docNoneUptoRow : OpenClaim := { program := "ytkgfbfopopmbhaa", sum := "010383012e6ab642621c51fb17d6a94cade10fa0ca3c123b9dbd7e2e8527f9f3", func := "packhorse/packhorselaw6.DocNone", spec := "docNone", inPlace := ["slices.overlaps[packhorse/doc.row]"], unfollowed := true, recurses := true, apart := false, narrowed := true }
def DocNoneUptoSaid : Prop := docNoneUptoRow.holds Try.pinned (OpenSpec.upto docNoneSpec)

/-- 'packhorselaw6.DocWhole', WHERE WHAT IT READS IS OF BULK AT MOST 1048576: true; the input reads as it did. -/
def docWholeUptoRow : OpenClaim := { program := "ytkgfbfopopmbhaa", sum := "010383012e6ab642621c51fb17d6a94cade10fa0ca3c123b9dbd7e2e8527f9f3", func := "packhorse/packhorselaw6.DocWhole", spec := "docWhole", inPlace := ["slices.overlaps[packhorse/doc.row]"], unfollowed := true, recurses := true, apart := false, narrowed := true }
def DocWholeUptoSaid : Prop := docWholeUptoRow.holds Try.pinned (OpenSpec.upto docWholeSpec)

/-- 'packhorselaw6.DocOrder', WHERE WHAT IT READS IS OF BULK AT MOST 1048576: true; the input reads as it did. -/
def docOrderUptoRow : OpenClaim := { program := "ytkgfbfopopmbhaa", sum := "010383012e6ab642621c51fb17d6a94cade10fa0ca3c123b9dbd7e2e8527f9f3", func := "packhorse/packhorselaw6.DocOrder", spec := "docOrder", inPlace := ["slices.overlaps[packhorse/doc.row]"], unfollowed := true, recurses := true, apart := false, narrowed := true }
def DocOrderUptoSaid : Prop := docOrderUptoRow.holds Try.pinned (OpenSpec.upto docOrderSpec)

/-- 'packhorselaw6.DocBack', WHERE WHAT IT READS IS OF BULK AT MOST 1048576: true; the input reads as it did. -/
def docBackUptoRow : OpenClaim := { program := "ytkgfbfopopmbhaa", sum := "010383012e6ab642621c51fb17d6a94cade10fa0ca3c123b9dbd7e2e8527f9f3", func := "packhorse/packhorselaw6.DocBack", spec := "docBack", inPlace := ["slices.overlaps[packhorse/doc.row]"], unfollowed := true, recurses := true, apart := false, narrowed := true }
def DocBackUptoSaid : Prop := docBackUptoRow.holds Try.pinned (OpenSpec.upto docBackSpec)

/-- 'packhorselaw6.DocOwn', WHERE WHAT IT READS IS OF BULK AT MOST 1048576: true; the input reads as it did. -/
def docOwnUptoRow : OpenClaim := { program := "ytkgfbfopopmbhaa", sum := "010383012e6ab642621c51fb17d6a94cade10fa0ca3c123b9dbd7e2e8527f9f3", func := "packhorse/packhorselaw6.DocOwn", spec := "docOwn", inPlace := ["slices.overlaps[packhorse/doc.row]"], unfollowed := true, recurses := true, apart := false, narrowed := true }
def DocOwnUptoSaid : Prop := docOwnUptoRow.holds Try.pinned (OpenSpec.upto docOwnSpec)

end Rows
end Go.Proofs.Ytkgfbfopopmbhaa
