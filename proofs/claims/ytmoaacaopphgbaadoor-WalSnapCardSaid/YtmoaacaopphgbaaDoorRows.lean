/-
  NARROWER THAN 'FOR EVERY INPUT', by the rows' own cells (each row's printed sentence says how): KeepSpoilt: laid · KeepNone: laid · KeepLaid: laid · KeepSnap: laid · KeepFull: laid · KeepOwn: laid · WalSnap: laid.
  DERIVED. THE GIVEN ROWS OF THIS SEAT. 7 by the template 'for every input the law returns true; each argument reads behind the call as it read before'; 0 by the template 'total and deterministic' (their statements: YtmoaacaopphgbaaDoorTotals.lean).
  GIVEN WITH THE SEED: the statements are not yours to turn. If you find one false, say at which input.
  Laid BY PROGRAM, IN A SANDBOX (cutbox-rows.mjs): the forced cells as the released guide's own fill.sh prints them over the translation 3e6cbb18e279e4b3… (all of the seat's roots in one cut). By AI agents, Wed Nov 11 2026. No macro, syntax, notation, axiom, sorry.
-/
import Derived.Test.YtmoaacaopphgbaaDoorChecked
import GoSem.Claim
import GoSem.ClaimJoined
import GoSem.ClaimMapViews
import Derived.JoinedTies
import Derived.KernelRfl
namespace Go.Proofs.YtmoaacaopphgbaaDoor
/- THE CELL 'sum', in the pinned program and in every row, IS THE sha256 OF THE DUMP (.gsa) THAT YtmoaacaopphgbaaDoorProg.lean LOADS. Nothing in Lean hashes anything: it is a label: what it is worth is what the hold of that sum in a sandbox is worth. -/
noncomputable def Tryd.pinned : Pinned := { name := "ytmoaacaopphgbaadoor", sum := "3e6cbb18e279e4b3b9b5c1357d448d775a858398592f7dc5656efb19e08b8a90", checked := Tryd.checked }
namespace Rows
def none {H : Type} : Left H := { results := [], args := [] }

/- WHAT THE LISTED PACKAGE-LEVEL VARIABLES READ AS WHEN THE CALL BEGINS. Each datum BY PROGRAM (the guide's laid-datum.mjs) off the statement by which the dump's own 'gosem.cut.vars' lays the variable. In a bare row this is a premise. The card (YtmoaacaopphgbaaDoorCards.lean) ties it to the program's text. -/
def laid_packhorse_crc_steps {H : Type} : DataW H := .agg [.lit (.int .u32 0), .lit (.int .u32 498536548), .lit (.int .u32 997073096), .lit (.int .u32 651767980), .lit (.int .u32 1994146192), .lit (.int .u32 1802195444), .lit (.int .u32 1303535960), .lit (.int .u32 1342533948), .lit (.int .u32 3988292384), .lit (.int .u32 4027552580), .lit (.int .u32 3604390888), .lit (.int .u32 3412177804), .lit (.int .u32 2607071920), .lit (.int .u32 2262029012), .lit (.int .u32 2685067896), .lit (.int .u32 3183342108)]

/-- 'packhorselaw11.KeepSpoilt': WHATEVER THE INPUT: true; the input reads as it did. -/
def keepSpoiltSpec : ChangeSpec := { name := "keepSpoilt", fn := fun _ => fun
  | [d1, d2, d3, d4, d5] => { results := [.lit (.bool true)], args := [d1, d2, d3, d4, d5] }
  | _ => none }
def keepSpoiltRow : OpenClaim := { program := "ytmoaacaopphgbaadoor", sum := "3e6cbb18e279e4b3b9b5c1357d448d775a858398592f7dc5656efb19e08b8a90", func := "packhorse/packhorselaw11.KeepSpoilt", spec := "keepSpoilt", inPlace := ["slices.overlaps[packhorse/api.Entry]"], unfollowed := true, recurses := true, named := ["packhorse/crc.steps"], apart := false, laid := [("packhorse/crc.steps", laid_packhorse_crc_steps)] }
def KeepSpoiltSaid : Prop := keepSpoiltRow.holds Tryd.pinned (OpenSpec.ofChange keepSpoiltSpec)

/-- ITS FALSE NEIGHBOUR: 'it returns false'. Refute it at one input. -/
def keepSpoiltWrong : ChangeSpec := { name := "keepSpoilt", fn := fun _ => fun
  | [d1, d2, d3, d4, d5] => { results := [.lit (.bool false)], args := [d1, d2, d3, d4, d5] }
  | _ => none }
def KeepSpoiltWrongFalsely : Prop := keepSpoiltRow.holds Tryd.pinned (OpenSpec.ofChange keepSpoiltWrong)

/-- 'packhorselaw11.KeepNone': WHATEVER THE INPUT: true; the input reads as it did. -/
def keepNoneSpec : ChangeSpec := { name := "keepNone", fn := fun _ => fun
  | [] => { results := [.lit (.bool true)], args := [] }
  | _ => none }
def keepNoneRow : OpenClaim := { program := "ytmoaacaopphgbaadoor", sum := "3e6cbb18e279e4b3b9b5c1357d448d775a858398592f7dc5656efb19e08b8a90", func := "packhorse/packhorselaw11.KeepNone", spec := "keepNone", inPlace := ["slices.overlaps[packhorse/api.Entry]"], unfollowed := true, recurses := true, named := ["packhorse/crc.steps"], apart := false, laid := [("packhorse/crc.steps", laid_packhorse_crc_steps)] }
def KeepNoneSaid : Prop := keepNoneRow.holds Tryd.pinned (OpenSpec.ofChange keepNoneSpec)

/-- ITS FALSE NEIGHBOUR: 'it returns false'. Refute it at one input. -/
def keepNoneWrong : ChangeSpec := { name := "keepNone", fn := fun _ => fun
  | [] => { results := [.lit (.bool false)], args := [] }
  | _ => none }
def KeepNoneWrongFalsely : Prop := keepNoneRow.holds Tryd.pinned (OpenSpec.ofChange keepNoneWrong)

/-- 'packhorselaw11.KeepLaid': WHATEVER THE INPUT: true; the input reads as it did. -/
def keepLaidSpec : ChangeSpec := { name := "keepLaid", fn := fun _ => fun
  | [d1, d2] => { results := [.lit (.bool true)], args := [d1, d2] }
  | _ => none }
def keepLaidRow : OpenClaim := { program := "ytmoaacaopphgbaadoor", sum := "3e6cbb18e279e4b3b9b5c1357d448d775a858398592f7dc5656efb19e08b8a90", func := "packhorse/packhorselaw11.KeepLaid", spec := "keepLaid", inPlace := ["slices.overlaps[packhorse/api.Entry]"], unfollowed := true, recurses := true, named := ["packhorse/crc.steps"], apart := false, laid := [("packhorse/crc.steps", laid_packhorse_crc_steps)] }
def KeepLaidSaid : Prop := keepLaidRow.holds Tryd.pinned (OpenSpec.ofChange keepLaidSpec)

/-- ITS FALSE NEIGHBOUR: 'it returns false'. Refute it at one input. -/
def keepLaidWrong : ChangeSpec := { name := "keepLaid", fn := fun _ => fun
  | [d1, d2] => { results := [.lit (.bool false)], args := [d1, d2] }
  | _ => none }
def KeepLaidWrongFalsely : Prop := keepLaidRow.holds Tryd.pinned (OpenSpec.ofChange keepLaidWrong)

/-- 'packhorselaw11.KeepSnap': WHATEVER THE INPUT: true; the input reads as it did. -/
def keepSnapSpec : ChangeSpec := { name := "keepSnap", fn := fun _ => fun
  | [d1, d2, d3] => { results := [.lit (.bool true)], args := [d1, d2, d3] }
  | _ => none }
def keepSnapRow : OpenClaim := { program := "ytmoaacaopphgbaadoor", sum := "3e6cbb18e279e4b3b9b5c1357d448d775a858398592f7dc5656efb19e08b8a90", func := "packhorse/packhorselaw11.KeepSnap", spec := "keepSnap", inPlace := ["slices.overlaps[packhorse/api.Entry]"], unfollowed := true, recurses := true, named := ["packhorse/crc.steps"], apart := false, laid := [("packhorse/crc.steps", laid_packhorse_crc_steps)] }
def KeepSnapSaid : Prop := keepSnapRow.holds Tryd.pinned (OpenSpec.ofChange keepSnapSpec)

/-- ITS FALSE NEIGHBOUR: 'it returns false'. Refute it at one input. -/
def keepSnapWrong : ChangeSpec := { name := "keepSnap", fn := fun _ => fun
  | [d1, d2, d3] => { results := [.lit (.bool false)], args := [d1, d2, d3] }
  | _ => none }
def KeepSnapWrongFalsely : Prop := keepSnapRow.holds Tryd.pinned (OpenSpec.ofChange keepSnapWrong)

/-- 'packhorselaw11.KeepFull': WHATEVER THE INPUT: true; the input reads as it did. -/
def keepFullSpec : ChangeSpec := { name := "keepFull", fn := fun _ => fun
  | [d] => { results := [.lit (.bool true)], args := [d] }
  | _ => none }
def keepFullRow : OpenClaim := { program := "ytmoaacaopphgbaadoor", sum := "3e6cbb18e279e4b3b9b5c1357d448d775a858398592f7dc5656efb19e08b8a90", func := "packhorse/packhorselaw11.KeepFull", spec := "keepFull", inPlace := ["slices.overlaps[packhorse/api.Entry]"], unfollowed := true, recurses := true, named := ["packhorse/crc.steps"], apart := false, laid := [("packhorse/crc.steps", laid_packhorse_crc_steps)] }
def KeepFullSaid : Prop := keepFullRow.holds Tryd.pinned (OpenSpec.ofChange keepFullSpec)

/-- ITS FALSE NEIGHBOUR: 'it returns false'. Refute it at one input. -/
def keepFullWrong : ChangeSpec := { name := "keepFull", fn := fun _ => fun
  | [d] => { results := [.lit (.bool false)], args := [d] }
  | _ => none }
def KeepFullWrongFalsely : Prop := keepFullRow.holds Tryd.pinned (OpenSpec.ofChange keepFullWrong)

/-- 'packhorselaw11.KeepOwn': WHATEVER THE INPUT: true; the input reads as it did. -/
def keepOwnSpec : ChangeSpec := { name := "keepOwn", fn := fun _ => fun
  | [d] => { results := [.lit (.bool true)], args := [d] }
  | _ => none }
def keepOwnRow : OpenClaim := { program := "ytmoaacaopphgbaadoor", sum := "3e6cbb18e279e4b3b9b5c1357d448d775a858398592f7dc5656efb19e08b8a90", func := "packhorse/packhorselaw11.KeepOwn", spec := "keepOwn", inPlace := ["slices.overlaps[packhorse/api.Entry]"], unfollowed := true, recurses := true, named := ["packhorse/crc.steps"], apart := false, laid := [("packhorse/crc.steps", laid_packhorse_crc_steps)] }
def KeepOwnSaid : Prop := keepOwnRow.holds Tryd.pinned (OpenSpec.ofChange keepOwnSpec)

/-- ITS FALSE NEIGHBOUR: 'it returns false'. Refute it at one input. -/
def keepOwnWrong : ChangeSpec := { name := "keepOwn", fn := fun _ => fun
  | [d] => { results := [.lit (.bool false)], args := [d] }
  | _ => none }
def KeepOwnWrongFalsely : Prop := keepOwnRow.holds Tryd.pinned (OpenSpec.ofChange keepOwnWrong)

/-- 'packhorselaw10.WalSnap': WHATEVER THE INPUT: true; the input reads as it did. -/
def walSnapSpec : ChangeSpec := { name := "walSnap", fn := fun _ => fun
  | [d1, d2, d3, d4, d5, d6] => { results := [.lit (.bool true)], args := [d1, d2, d3, d4, d5, d6] }
  | _ => none }
def walSnapRow : OpenClaim := { program := "ytmoaacaopphgbaadoor", sum := "3e6cbb18e279e4b3b9b5c1357d448d775a858398592f7dc5656efb19e08b8a90", func := "packhorse/packhorselaw10.WalSnap", spec := "walSnap", unfollowed := true, recurses := true, named := ["packhorse/crc.steps"], apart := false, laid := [("packhorse/crc.steps", laid_packhorse_crc_steps)] }
def WalSnapSaid : Prop := walSnapRow.holds Tryd.pinned (OpenSpec.ofChange walSnapSpec)

/-- ITS FALSE NEIGHBOUR: 'it returns false'. Refute it at one input. -/
def walSnapWrong : ChangeSpec := { name := "walSnap", fn := fun _ => fun
  | [d1, d2, d3, d4, d5, d6] => { results := [.lit (.bool false)], args := [d1, d2, d3, d4, d5, d6] }
  | _ => none }
def WalSnapWrongFalsely : Prop := walSnapRow.holds Tryd.pinned (OpenSpec.ofChange walSnapWrong)

/- THE SECOND FORM. 'bulk': how many values and letters a reading holds, each counted each time it is reached (what is shared counts as often as it is met; a slice's spare places count too). A statement '..UptoSaid' is the law's where the arguments, and the package variables that the reading takes, are together of bulk at most 1048576: NARROWER than '..Said'. Prove '..Said' where nothing that the law and all that it calls make is longer than what came in: it says more and counts as full. Else prove '..UptoSaid'. A law counts once. -/
mutual
def uptoBulk {H : Type} : DataW H → Nat
  | .lit (.string bytes) => bytes.length + 1
  | .lit _ => 1
  | .nil => 1
  | .ptr d => uptoBulk d + 1
  | .slice elems spare => uptoBulkAll elems + uptoBulkAll spare + 1
  | .agg parts => uptoBulkAll parts + 1
  | .iface _ d => uptoBulk d + 1
  | .map entries => uptoBulkEntries entries + 1
  | .held _ => 1
def uptoBulkAll {H : Type} : List (DataW H) → Nat
  | [] => 0
  | d :: r => uptoBulk d + uptoBulkAll r
def uptoBulkEntries {H : Type} : List (Lit × DataW H) → Nat
  | [] => 0
  | x :: r => uptoBulkEntry x + uptoBulkEntries r
def uptoBulkEntry {H : Type} : Lit × DataW H → Nat
  | (.string bytes, d) => bytes.length + uptoBulk d + 1
  | (_, d) => uptoBulk d + 1
 end
def uptoSmall : (H : Type) → List (DataW H) → Bool := fun _ ds => decide (uptoBulkAll ds ≤ 1048576)
def OpenSpec.upto (s : _root_.Go.ChangeSpec) : _root_.Go.OpenSpec := { _root_.Go.OpenSpec.ofChange s with cond := some uptoSmall }

/-- 'packhorselaw11.KeepSpoilt', WHERE WHAT IT READS IS OF BULK AT MOST 1048576: true; the input reads as it did. -/
def keepSpoiltUptoRow : OpenClaim := { program := "ytmoaacaopphgbaadoor", sum := "3e6cbb18e279e4b3b9b5c1357d448d775a858398592f7dc5656efb19e08b8a90", func := "packhorse/packhorselaw11.KeepSpoilt", spec := "keepSpoilt", inPlace := ["slices.overlaps[packhorse/api.Entry]"], unfollowed := true, recurses := true, named := ["packhorse/crc.steps"], apart := false, laid := [("packhorse/crc.steps", laid_packhorse_crc_steps)], narrowed := true }
def KeepSpoiltUptoSaid : Prop := keepSpoiltUptoRow.holds Tryd.pinned (OpenSpec.upto keepSpoiltSpec)

/-- 'packhorselaw11.KeepNone', WHERE WHAT IT READS IS OF BULK AT MOST 1048576: true; the input reads as it did. -/
def keepNoneUptoRow : OpenClaim := { program := "ytmoaacaopphgbaadoor", sum := "3e6cbb18e279e4b3b9b5c1357d448d775a858398592f7dc5656efb19e08b8a90", func := "packhorse/packhorselaw11.KeepNone", spec := "keepNone", inPlace := ["slices.overlaps[packhorse/api.Entry]"], unfollowed := true, recurses := true, named := ["packhorse/crc.steps"], apart := false, laid := [("packhorse/crc.steps", laid_packhorse_crc_steps)], narrowed := true }
def KeepNoneUptoSaid : Prop := keepNoneUptoRow.holds Tryd.pinned (OpenSpec.upto keepNoneSpec)

/-- 'packhorselaw11.KeepLaid', WHERE WHAT IT READS IS OF BULK AT MOST 1048576: true; the input reads as it did. -/
def keepLaidUptoRow : OpenClaim := { program := "ytmoaacaopphgbaadoor", sum := "3e6cbb18e279e4b3b9b5c1357d448d775a858398592f7dc5656efb19e08b8a90", func := "packhorse/packhorselaw11.KeepLaid", spec := "keepLaid", inPlace := ["slices.overlaps[packhorse/api.Entry]"], unfollowed := true, recurses := true, named := ["packhorse/crc.steps"], apart := false, laid := [("packhorse/crc.steps", laid_packhorse_crc_steps)], narrowed := true }
def KeepLaidUptoSaid : Prop := keepLaidUptoRow.holds Tryd.pinned (OpenSpec.upto keepLaidSpec)

/-- 'packhorselaw11.KeepSnap', WHERE WHAT IT READS IS OF BULK AT MOST 1048576: true; the input reads as it did. -/
def keepSnapUptoRow : OpenClaim := { program := "ytmoaacaopphgbaadoor", sum := "3e6cbb18e279e4b3b9b5c1357d448d775a858398592f7dc5656efb19e08b8a90", func := "packhorse/packhorselaw11.KeepSnap", spec := "keepSnap", inPlace := ["slices.overlaps[packhorse/api.Entry]"], unfollowed := true, recurses := true, named := ["packhorse/crc.steps"], apart := false, laid := [("packhorse/crc.steps", laid_packhorse_crc_steps)], narrowed := true }
def KeepSnapUptoSaid : Prop := keepSnapUptoRow.holds Tryd.pinned (OpenSpec.upto keepSnapSpec)

/-- 'packhorselaw11.KeepFull', WHERE WHAT IT READS IS OF BULK AT MOST 1048576: true; the input reads as it did. -/
def keepFullUptoRow : OpenClaim := { program := "ytmoaacaopphgbaadoor", sum := "3e6cbb18e279e4b3b9b5c1357d448d775a858398592f7dc5656efb19e08b8a90", func := "packhorse/packhorselaw11.KeepFull", spec := "keepFull", inPlace := ["slices.overlaps[packhorse/api.Entry]"], unfollowed := true, recurses := true, named := ["packhorse/crc.steps"], apart := false, laid := [("packhorse/crc.steps", laid_packhorse_crc_steps)], narrowed := true }
def KeepFullUptoSaid : Prop := keepFullUptoRow.holds Tryd.pinned (OpenSpec.upto keepFullSpec)

/-- 'packhorselaw11.KeepOwn', WHERE WHAT IT READS IS OF BULK AT MOST 1048576: true; the input reads as it did. -/
def keepOwnUptoRow : OpenClaim := { program := "ytmoaacaopphgbaadoor", sum := "3e6cbb18e279e4b3b9b5c1357d448d775a858398592f7dc5656efb19e08b8a90", func := "packhorse/packhorselaw11.KeepOwn", spec := "keepOwn", inPlace := ["slices.overlaps[packhorse/api.Entry]"], unfollowed := true, recurses := true, named := ["packhorse/crc.steps"], apart := false, laid := [("packhorse/crc.steps", laid_packhorse_crc_steps)], narrowed := true }
def KeepOwnUptoSaid : Prop := keepOwnUptoRow.holds Tryd.pinned (OpenSpec.upto keepOwnSpec)

/-- 'packhorselaw10.WalSnap', WHERE WHAT IT READS IS OF BULK AT MOST 1048576: true; the input reads as it did. -/
def walSnapUptoRow : OpenClaim := { program := "ytmoaacaopphgbaadoor", sum := "3e6cbb18e279e4b3b9b5c1357d448d775a858398592f7dc5656efb19e08b8a90", func := "packhorse/packhorselaw10.WalSnap", spec := "walSnap", unfollowed := true, recurses := true, named := ["packhorse/crc.steps"], apart := false, laid := [("packhorse/crc.steps", laid_packhorse_crc_steps)], narrowed := true }
def WalSnapUptoSaid : Prop := walSnapUptoRow.holds Tryd.pinned (OpenSpec.upto walSnapSpec)

end Rows
end Go.Proofs.YtmoaacaopphgbaaDoor
