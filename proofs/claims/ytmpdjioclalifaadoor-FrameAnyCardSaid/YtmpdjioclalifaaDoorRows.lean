/-
  NARROWER THAN 'FOR EVERY INPUT', by the rows' own cells (each row's printed sentence says how): FrameBack: laid · FrameAny: laid · FrameAll: laid · FrameSpoilt: laid · FrameCut: laid · FrameInside: laid.
  DERIVED. THE GIVEN ROWS OF THIS SEAT. 6 by the template 'for every input the law returns true; each argument reads behind the call as it read before'; 0 by the template 'total and deterministic' (their statements: YtmpdjioclalifaaDoorTotals.lean).
  GIVEN WITH THE SEED: the statements are not yours to turn. If you find one false, say at which input.
  Laid BY PROGRAM, IN A SANDBOX (cutbox-rows.mjs): the forced cells as the released guide's own fill.sh prints them over the translation d84f51304f15fdfb… (all of the seat's roots in one cut). By AI agents, Wed Nov 11 2026. No macro, syntax, notation, axiom, sorry.
-/
import Derived.Test.YtmpdjioclalifaaDoorChecked
import GoSem.Claim
import GoSem.ClaimJoined
import GoSem.ClaimMapViews
import Derived.JoinedTies
import Derived.KernelRfl
namespace Go.Proofs.YtmpdjioclalifaaDoor
/- THE CELL 'sum', in the pinned program and in every row, IS THE sha256 OF THE DUMP (.gsa) THAT YtmpdjioclalifaaDoorProg.lean LOADS. Nothing in Lean hashes anything: it is a label: what it is worth is what the hold of that sum in a sandbox is worth. -/
noncomputable def Tryd.pinned : Pinned := { name := "ytmpdjioclalifaadoor", sum := "d84f51304f15fdfbea6361be16b86925da151a125335ccfa9bd63ab126f8bef9", checked := Tryd.checked }
namespace Rows
def none {H : Type} : Left H := { results := [], args := [] }

/- WHAT THE LISTED PACKAGE-LEVEL VARIABLES READ AS WHEN THE CALL BEGINS. Each datum BY PROGRAM (the guide's laid-datum.mjs) off the statement by which the dump's own 'gosem.cut.vars' lays the variable. In a bare row this is a premise. The card (YtmpdjioclalifaaDoorCards.lean) ties it to the program's text. -/
def laid_packhorse_crc_steps {H : Type} : DataW H := .agg [.lit (.int .u32 0), .lit (.int .u32 498536548), .lit (.int .u32 997073096), .lit (.int .u32 651767980), .lit (.int .u32 1994146192), .lit (.int .u32 1802195444), .lit (.int .u32 1303535960), .lit (.int .u32 1342533948), .lit (.int .u32 3988292384), .lit (.int .u32 4027552580), .lit (.int .u32 3604390888), .lit (.int .u32 3412177804), .lit (.int .u32 2607071920), .lit (.int .u32 2262029012), .lit (.int .u32 2685067896), .lit (.int .u32 3183342108)]

/-- 'packhorselaw8.FrameBack': WHATEVER THE INPUT: true; the input reads as it did. -/
def frameBackSpec : ChangeSpec := { name := "frameBack", fn := fun _ => fun
  | [d1, d2, d3, d4] => { results := [.lit (.bool true)], args := [d1, d2, d3, d4] }
  | _ => none }
def frameBackRow : OpenClaim := { program := "ytmpdjioclalifaadoor", sum := "d84f51304f15fdfbea6361be16b86925da151a125335ccfa9bd63ab126f8bef9", func := "packhorse/packhorselaw8.FrameBack", spec := "frameBack", named := ["packhorse/crc.steps"], apart := false, laid := [("packhorse/crc.steps", laid_packhorse_crc_steps)] }
def FrameBackSaid : Prop := frameBackRow.holds Tryd.pinned (OpenSpec.ofChange frameBackSpec)

/-- ITS FALSE NEIGHBOUR: 'it returns false'. Refute it at one input. -/
def frameBackWrong : ChangeSpec := { name := "frameBack", fn := fun _ => fun
  | [d1, d2, d3, d4] => { results := [.lit (.bool false)], args := [d1, d2, d3, d4] }
  | _ => none }
def FrameBackWrongFalsely : Prop := frameBackRow.holds Tryd.pinned (OpenSpec.ofChange frameBackWrong)

/-- 'packhorselaw8.FrameAny': WHATEVER THE INPUT: true; the input reads as it did. -/
def frameAnySpec : ChangeSpec := { name := "frameAny", fn := fun _ => fun
  | [d1, d2, d3, d4, d5, d6] => { results := [.lit (.bool true)], args := [d1, d2, d3, d4, d5, d6] }
  | _ => none }
def frameAnyRow : OpenClaim := { program := "ytmpdjioclalifaadoor", sum := "d84f51304f15fdfbea6361be16b86925da151a125335ccfa9bd63ab126f8bef9", func := "packhorse/packhorselaw8.FrameAny", spec := "frameAny", named := ["packhorse/crc.steps"], apart := false, laid := [("packhorse/crc.steps", laid_packhorse_crc_steps)] }
def FrameAnySaid : Prop := frameAnyRow.holds Tryd.pinned (OpenSpec.ofChange frameAnySpec)

/-- ITS FALSE NEIGHBOUR: 'it returns false'. Refute it at one input. -/
def frameAnyWrong : ChangeSpec := { name := "frameAny", fn := fun _ => fun
  | [d1, d2, d3, d4, d5, d6] => { results := [.lit (.bool false)], args := [d1, d2, d3, d4, d5, d6] }
  | _ => none }
def FrameAnyWrongFalsely : Prop := frameAnyRow.holds Tryd.pinned (OpenSpec.ofChange frameAnyWrong)

/-- 'packhorselaw8.FrameAll': WHATEVER THE INPUT: true; the input reads as it did. -/
def frameAllSpec : ChangeSpec := { name := "frameAll", fn := fun _ => fun
  | [d1, d2, d3] => { results := [.lit (.bool true)], args := [d1, d2, d3] }
  | _ => none }
def frameAllRow : OpenClaim := { program := "ytmpdjioclalifaadoor", sum := "d84f51304f15fdfbea6361be16b86925da151a125335ccfa9bd63ab126f8bef9", func := "packhorse/packhorselaw8.FrameAll", spec := "frameAll", named := ["packhorse/crc.steps"], apart := false, laid := [("packhorse/crc.steps", laid_packhorse_crc_steps)] }
def FrameAllSaid : Prop := frameAllRow.holds Tryd.pinned (OpenSpec.ofChange frameAllSpec)

/-- ITS FALSE NEIGHBOUR: 'it returns false'. Refute it at one input. -/
def frameAllWrong : ChangeSpec := { name := "frameAll", fn := fun _ => fun
  | [d1, d2, d3] => { results := [.lit (.bool false)], args := [d1, d2, d3] }
  | _ => none }
def FrameAllWrongFalsely : Prop := frameAllRow.holds Tryd.pinned (OpenSpec.ofChange frameAllWrong)

/-- 'packhorselaw8.FrameSpoilt': WHATEVER THE INPUT: true; the input reads as it did. -/
def frameSpoiltSpec : ChangeSpec := { name := "frameSpoilt", fn := fun _ => fun
  | [d1, d2, d3, d4] => { results := [.lit (.bool true)], args := [d1, d2, d3, d4] }
  | _ => none }
def frameSpoiltRow : OpenClaim := { program := "ytmpdjioclalifaadoor", sum := "d84f51304f15fdfbea6361be16b86925da151a125335ccfa9bd63ab126f8bef9", func := "packhorse/packhorselaw8.FrameSpoilt", spec := "frameSpoilt", named := ["packhorse/crc.steps"], apart := false, laid := [("packhorse/crc.steps", laid_packhorse_crc_steps)] }
def FrameSpoiltSaid : Prop := frameSpoiltRow.holds Tryd.pinned (OpenSpec.ofChange frameSpoiltSpec)

/-- ITS FALSE NEIGHBOUR: 'it returns false'. Refute it at one input. -/
def frameSpoiltWrong : ChangeSpec := { name := "frameSpoilt", fn := fun _ => fun
  | [d1, d2, d3, d4] => { results := [.lit (.bool false)], args := [d1, d2, d3, d4] }
  | _ => none }
def FrameSpoiltWrongFalsely : Prop := frameSpoiltRow.holds Tryd.pinned (OpenSpec.ofChange frameSpoiltWrong)

/-- 'packhorselaw8.FrameCut': WHATEVER THE INPUT: true; the input reads as it did. -/
def frameCutSpec : ChangeSpec := { name := "frameCut", fn := fun _ => fun
  | [d1, d2, d3] => { results := [.lit (.bool true)], args := [d1, d2, d3] }
  | _ => none }
def frameCutRow : OpenClaim := { program := "ytmpdjioclalifaadoor", sum := "d84f51304f15fdfbea6361be16b86925da151a125335ccfa9bd63ab126f8bef9", func := "packhorse/packhorselaw8.FrameCut", spec := "frameCut", named := ["packhorse/crc.steps"], apart := false, laid := [("packhorse/crc.steps", laid_packhorse_crc_steps)] }
def FrameCutSaid : Prop := frameCutRow.holds Tryd.pinned (OpenSpec.ofChange frameCutSpec)

/-- ITS FALSE NEIGHBOUR: 'it returns false'. Refute it at one input. -/
def frameCutWrong : ChangeSpec := { name := "frameCut", fn := fun _ => fun
  | [d1, d2, d3] => { results := [.lit (.bool false)], args := [d1, d2, d3] }
  | _ => none }
def FrameCutWrongFalsely : Prop := frameCutRow.holds Tryd.pinned (OpenSpec.ofChange frameCutWrong)

/-- 'packhorselaw8.FrameInside': WHATEVER THE INPUT: true; the input reads as it did. -/
def frameInsideSpec : ChangeSpec := { name := "frameInside", fn := fun _ => fun
  | [d] => { results := [.lit (.bool true)], args := [d] }
  | _ => none }
def frameInsideRow : OpenClaim := { program := "ytmpdjioclalifaadoor", sum := "d84f51304f15fdfbea6361be16b86925da151a125335ccfa9bd63ab126f8bef9", func := "packhorse/packhorselaw8.FrameInside", spec := "frameInside", named := ["packhorse/crc.steps"], apart := false, laid := [("packhorse/crc.steps", laid_packhorse_crc_steps)] }
def FrameInsideSaid : Prop := frameInsideRow.holds Tryd.pinned (OpenSpec.ofChange frameInsideSpec)

/-- ITS FALSE NEIGHBOUR: 'it returns false'. Refute it at one input. -/
def frameInsideWrong : ChangeSpec := { name := "frameInside", fn := fun _ => fun
  | [d] => { results := [.lit (.bool false)], args := [d] }
  | _ => none }
def FrameInsideWrongFalsely : Prop := frameInsideRow.holds Tryd.pinned (OpenSpec.ofChange frameInsideWrong)

/- THE SECOND FORM. 'bulk': how many values and letters a reading holds, each counted each time it is reached (what is shared counts as often as it is met; a slice's spare places count too). A statement '..UptoSaid' is the law's where the arguments, and the package variables that the reading takes, are together of bulk at most 1048576: NARROWER than '..Said'. Prove '..Said' where nothing that the law and all that it calls make is longer than what came in: it says more and counts as full. Else prove '..UptoSaid'. A law counts once. -/
mutual
def uptoBulk {H : Type} : DataW H → Nat
  | .lit (.string bytes) => bytes.length + 1
  | .lit _ => 1
  | .nil => 1
  | .ptr d => uptoBulk d + 1
  | .slice elems spare => uptoBulkAll elems + uptoBulkAll spare + 1
  | .agg parts => uptoBulkAll parts + 1
  | .iface _ d => uptoBulk d + 1
  | .map entries => uptoBulkEntries entries + 1
  | .held _ => 1
def uptoBulkAll {H : Type} : List (DataW H) → Nat
  | [] => 0
  | d :: r => uptoBulk d + uptoBulkAll r
def uptoBulkEntries {H : Type} : List (Lit × DataW H) → Nat
  | [] => 0
  | x :: r => uptoBulkEntry x + uptoBulkEntries r
def uptoBulkEntry {H : Type} : Lit × DataW H → Nat
  | (.string bytes, d) => bytes.length + uptoBulk d + 1
  | (_, d) => uptoBulk d + 1
 end
def uptoSmall : (H : Type) → List (DataW H) → Bool := fun _ ds => decide (uptoBulkAll ds ≤ 1048576)
def OpenSpec.upto (s : _root_.Go.ChangeSpec) : _root_.Go.OpenSpec := { _root_.Go.OpenSpec.ofChange s with cond := some uptoSmall }

/-- 'packhorselaw8.FrameBack', WHERE WHAT IT READS IS OF BULK AT MOST 1048576: true; the input reads as it did. -/
def frameBackUptoRow : OpenClaim := { program := "ytmpdjioclalifaadoor", sum := "d84f51304f15fdfbea6361be16b86925da151a125335ccfa9bd63ab126f8bef9", func := "packhorse/packhorselaw8.FrameBack", spec := "frameBack", named := ["packhorse/crc.steps"], apart := false, laid := [("packhorse/crc.steps", laid_packhorse_crc_steps)], narrowed := true }
def FrameBackUptoSaid : Prop := frameBackUptoRow.holds Tryd.pinned (OpenSpec.upto frameBackSpec)

/-- 'packhorselaw8.FrameAny', WHERE WHAT IT READS IS OF BULK AT MOST 1048576: true; the input reads as it did. -/
def frameAnyUptoRow : OpenClaim := { program := "ytmpdjioclalifaadoor", sum := "d84f51304f15fdfbea6361be16b86925da151a125335ccfa9bd63ab126f8bef9", func := "packhorse/packhorselaw8.FrameAny", spec := "frameAny", named := ["packhorse/crc.steps"], apart := false, laid := [("packhorse/crc.steps", laid_packhorse_crc_steps)], narrowed := true }
def FrameAnyUptoSaid : Prop := frameAnyUptoRow.holds Tryd.pinned (OpenSpec.upto frameAnySpec)

/-- 'packhorselaw8.FrameAll', WHERE WHAT IT READS IS OF BULK AT MOST 1048576: true; the input reads as it did. -/
def frameAllUptoRow : OpenClaim := { program := "ytmpdjioclalifaadoor", sum := "d84f51304f15fdfbea6361be16b86925da151a125335ccfa9bd63ab126f8bef9", func := "packhorse/packhorselaw8.FrameAll", spec := "frameAll", named := ["packhorse/crc.steps"], apart := false, laid := [("packhorse/crc.steps", laid_packhorse_crc_steps)], narrowed := true }
def FrameAllUptoSaid : Prop := frameAllUptoRow.holds Tryd.pinned (OpenSpec.upto frameAllSpec)

/-- 'packhorselaw8.FrameSpoilt', WHERE WHAT IT READS IS OF BULK AT MOST 1048576: true; the input reads as it did. -/
def frameSpoiltUptoRow : OpenClaim := { program := "ytmpdjioclalifaadoor", sum := "d84f51304f15fdfbea6361be16b86925da151a125335ccfa9bd63ab126f8bef9", func := "packhorse/packhorselaw8.FrameSpoilt", spec := "frameSpoilt", named := ["packhorse/crc.steps"], apart := false, laid := [("packhorse/crc.steps", laid_packhorse_crc_steps)], narrowed := true }
def FrameSpoiltUptoSaid : Prop := frameSpoiltUptoRow.holds Tryd.pinned (OpenSpec.upto frameSpoiltSpec)

/-- 'packhorselaw8.FrameCut', WHERE WHAT IT READS IS OF BULK AT MOST 1048576: true; the input reads as it did. -/
def frameCutUptoRow : OpenClaim := { program := "ytmpdjioclalifaadoor", sum := "d84f51304f15fdfbea6361be16b86925da151a125335ccfa9bd63ab126f8bef9", func := "packhorse/packhorselaw8.FrameCut", spec := "frameCut", named := ["packhorse/crc.steps"], apart := false, laid := [("packhorse/crc.steps", laid_packhorse_crc_steps)], narrowed := true }
def FrameCutUptoSaid : Prop := frameCutUptoRow.holds Tryd.pinned (OpenSpec.upto frameCutSpec)

/-- 'packhorselaw8.FrameInside', WHERE WHAT IT READS IS OF BULK AT MOST 1048576: true; the input reads as it did. -/
def frameInsideUptoRow : OpenClaim := { program := "ytmpdjioclalifaadoor", sum := "d84f51304f15fdfbea6361be16b86925da151a125335ccfa9bd63ab126f8bef9", func := "packhorse/packhorselaw8.FrameInside", spec := "frameInside", named := ["packhorse/crc.steps"], apart := false, laid := [("packhorse/crc.steps", laid_packhorse_crc_steps)], narrowed := true }
def FrameInsideUptoSaid : Prop := frameInsideUptoRow.holds Tryd.pinned (OpenSpec.upto frameInsideSpec)

end Rows
end Go.Proofs.YtmpdjioclalifaaDoor
