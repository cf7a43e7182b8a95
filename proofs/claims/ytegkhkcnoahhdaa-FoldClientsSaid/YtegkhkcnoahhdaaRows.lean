/-
  No cell of these rows narrows 'for every input' (looked for: loops, veiled, ifaces, maps, wideKeys, modest, calm, conditions, laid).
  DERIVED. THE GIVEN ROWS OF THIS SEAT. 3 by the template 'for every input the law returns true; each argument reads behind the call as it read before'; 0 by the template 'total and deterministic' (their statements: YtegkhkcnoahhdaaTotals.lean).
  GIVEN WITH THE SEED: the statements are not yours to turn. If you find one false, say at which input.
  Laid BY PROGRAM, IN A SANDBOX (cutbox-rows.mjs): the forced cells as the released guide's own fill.sh prints them over the translation 19cb6f2c82aaa345… (all of the seat's roots in one cut). By AI agents, Wed Nov 11 2026. No macro, syntax, notation, axiom, sorry.
-/
import Derived.Test.YtegkhkcnoahhdaaChecked
import GoSem.Claim
import GoSem.ClaimJoined
import GoSem.ClaimMapViews
import Derived.JoinedTies
import Derived.KernelRfl
namespace Go.Proofs.Ytegkhkcnoahhdaa
/- THE CELL 'sum', in the pinned program and in every row, IS THE sha256 OF THE DUMP (.gsa) THAT YtegkhkcnoahhdaaProg.lean LOADS. Nothing in Lean hashes anything: it is a label: what it is worth is what the hold of that sum in a sandbox is worth. -/
noncomputable def Try.pinned : Pinned := { name := "ytegkhkcnoahhdaa", sum := "19cb6f2c82aaa345ca9dafcaaeeefd8621325a1c6cb85dd5a40b96d0f71b594a", checked := Try.checked }
namespace Rows
def none {H : Type} : Left H := { results := [], args := [] }

/-- 'packhorselaw7.FoldAny': WHATEVER THE INPUT: true; the input reads as it did. -/
def foldAnySpec : ChangeSpec := { name := "foldAny", fn := fun _ => fun
  | [d] => { results := [.lit (.bool true)], args := [d] }
  | _ => none }
def foldAnyRow : OpenClaim := { program := "ytegkhkcnoahhdaa", sum := "19cb6f2c82aaa345ca9dafcaaeeefd8621325a1c6cb85dd5a40b96d0f71b594a", func := "packhorse/packhorselaw7.FoldAny", spec := "foldAny", inPlace := ["slices.overlaps[packhorse/doc.row]"], unfollowed := true, recurses := true, apart := false }
def FoldAnySaid : Prop := foldAnyRow.holds Try.pinned (OpenSpec.ofChange foldAnySpec)

/-- ITS FALSE NEIGHBOUR: 'it returns false'. Refute it at one input. -/
def foldAnyWrong : ChangeSpec := { name := "foldAny", fn := fun _ => fun
  | [d] => { results := [.lit (.bool false)], args := [d] }
  | _ => none }
def FoldAnyWrongFalsely : Prop := foldAnyRow.holds Try.pinned (OpenSpec.ofChange foldAnyWrong)

/-- 'packhorselaw7.FoldNone': WHATEVER THE INPUT: true; the input reads as it did. -/
def foldNoneSpec : ChangeSpec := { name := "foldNone", fn := fun _ => fun
  | [] => { results := [.lit (.bool true)], args := [] }
  | _ => none }
def foldNoneRow : OpenClaim := { program := "ytegkhkcnoahhdaa", sum := "19cb6f2c82aaa345ca9dafcaaeeefd8621325a1c6cb85dd5a40b96d0f71b594a", func := "packhorse/packhorselaw7.FoldNone", spec := "foldNone", inPlace := ["slices.overlaps[packhorse/doc.row]"], unfollowed := true, recurses := true, apart := false }
def FoldNoneSaid : Prop := foldNoneRow.holds Try.pinned (OpenSpec.ofChange foldNoneSpec)

/-- ITS FALSE NEIGHBOUR: 'it returns false'. Refute it at one input. -/
def foldNoneWrong : ChangeSpec := { name := "foldNone", fn := fun _ => fun
  | [] => { results := [.lit (.bool false)], args := [] }
  | _ => none }
def FoldNoneWrongFalsely : Prop := foldNoneRow.holds Try.pinned (OpenSpec.ofChange foldNoneWrong)

/-- 'packhorselaw7.FoldClients': WHATEVER THE INPUT: true; the input reads as it did. -/
def foldClientsSpec : ChangeSpec := { name := "foldClients", fn := fun _ => fun
  | [d] => { results := [.lit (.bool true)], args := [d] }
  | _ => none }
def foldClientsRow : OpenClaim := { program := "ytegkhkcnoahhdaa", sum := "19cb6f2c82aaa345ca9dafcaaeeefd8621325a1c6cb85dd5a40b96d0f71b594a", func := "packhorse/packhorselaw7.FoldClients", spec := "foldClients", inPlace := ["slices.overlaps[packhorse/doc.row]"], unfollowed := true, recurses := true, apart := false }
def FoldClientsSaid : Prop := foldClientsRow.holds Try.pinned (OpenSpec.ofChange foldClientsSpec)

/-- ITS FALSE NEIGHBOUR: 'it returns false'. Refute it at one input. -/
def foldClientsWrong : ChangeSpec := { name := "foldClients", fn := fun _ => fun
  | [d] => { results := [.lit (.bool false)], args := [d] }
  | _ => none }
def FoldClientsWrongFalsely : Prop := foldClientsRow.holds Try.pinned (OpenSpec.ofChange foldClientsWrong)

/- THE SECOND FORM. 'bulk': how many values and letters a reading holds, each counted each time it is reached (what is shared counts as often as it is met; a slice's spare places count too). A statement '..UptoSaid' is the law's where the arguments, and the package variables that the reading takes, are together of bulk at most 1048576: NARROWER than '..Said'. Prove '..Said' where nothing that the law and all that it calls make is longer than what came in: it says more and counts as full. Else prove '..UptoSaid'. A law counts once. -/
mutual
def uptoBulk {H : Type} : DataW H → Nat
  | .lit (.string bytes) => bytes.length + 1
  | .lit _ => 1
  | .nil => 1
  | .ptr d => uptoBulk d + 1
  | .slice elems spare => uptoBulkAll elems + uptoBulkAll spare + 1
  | .agg parts => uptoBulkAll parts + 1
  | .iface _ d => uptoBulk d + 1
  | .map entries => uptoBulkEntries entries + 1
  | .held _ => 1
def uptoBulkAll {H : Type} : List (DataW H) → Nat
  | [] => 0
  | d :: r => uptoBulk d + uptoBulkAll r
def uptoBulkEntries {H : Type} : List (Lit × DataW H) → Nat
  | [] => 0
  | x :: r => uptoBulkEntry x + uptoBulkEntries r
def uptoBulkEntry {H : Type} : Lit × DataW H → Nat
  | (.string bytes, d) => bytes.length + uptoBulk d + 1
  | (_, d) => uptoBulk d + 1
 end
def uptoSmall : (H : Type) → List (DataW H) → Bool := fun _ ds => decide (uptoBulkAll ds ≤ 1048576)
def OpenSpec.upto (s : _root_.Go.ChangeSpec) : _root_.Go.OpenSpec := { _root_.Go.OpenSpec.ofChange s with cond := some uptoSmall }

/-- 'packhorselaw7.FoldAny', WHERE WHAT IT READS IS OF BULK AT MOST 1048576: true; the input reads as it did. -/
def foldAnyUptoRow : OpenClaim := { program := "ytegkhkcnoahhdaa", sum := "19cb6f2c82aaa345ca9dafcaaeeefd8621325a1c6cb85dd5a40b96d0f71b594a", func := "packhorse/packhorselaw7.FoldAny", spec := "foldAny", inPlace := ["slices.overlaps[packhorse/doc.row]"], unfollowed := true, recurses := true, apart := false, narrowed := true }
def FoldAnyUptoSaid : Prop := foldAnyUptoRow.holds Try.pinned (OpenSpec.upto foldAnySpec)

/-- 'packhorselaw7.FoldNone', WHERE WHAT IT READS IS OF BULK AT MOST 1048576: true; the input reads as it did. -/
def foldNoneUptoRow : OpenClaim := { program := "ytegkhkcnoahhdaa", sum := "19cb6f2c82aaa345ca9dafcaaeeefd8621325a1c6cb85dd5a40b96d0f71b594a", func := "packhorse/packhorselaw7.FoldNone", spec := "foldNone", inPlace := ["slices.overlaps[packhorse/doc.row]"], unfollowed := true, recurses := true, apart := false, narrowed := true }
def FoldNoneUptoSaid : Prop := foldNoneUptoRow.holds Try.pinned (OpenSpec.upto foldNoneSpec)

/-- 'packhorselaw7.FoldClients', WHERE WHAT IT READS IS OF BULK AT MOST 1048576: true; the input reads as it did. -/
def foldClientsUptoRow : OpenClaim := { program := "ytegkhkcnoahhdaa", sum := "19cb6f2c82aaa345ca9dafcaaeeefd8621325a1c6cb85dd5a40b96d0f71b594a", func := "packhorse/packhorselaw7.FoldClients", spec := "foldClients", inPlace := ["slices.overlaps[packhorse/doc.row]"], unfollowed := true, recurses := true, apart := false, narrowed := true }
def FoldClientsUptoSaid : Prop := foldClientsUptoRow.holds Try.pinned (OpenSpec.upto foldClientsSpec)

end Rows
end Go.Proofs.Ytegkhkcnoahhdaa
