/-
  NARROWER THAN 'FOR EVERY INPUT', by the rows' own cells (each row's printed sentence says how): WalRecord: laid · WalScan: laid · WalAny: laid · WalSnap: laid · WalTorn: laid · WalEnds: laid · WalBig: laid.
  DERIVED. THE GIVEN ROWS OF THIS SEAT. 7 by the template 'for every input the law returns true; each argument reads behind the call as it read before'; 0 by the template 'total and deterministic' (their statements: YtdigpeipklfaeaaDoorTotals.lean).
  GIVEN WITH THE SEED: the statements are not yours to turn. If you find one false, say at which input.
  Laid BY PROGRAM, IN A SANDBOX (cutbox-rows.mjs): the forced cells as the released guide's own fill.sh prints them over the translation c796d9e745ef091d… (all of the seat's roots in one cut). By AI agents, Wed Nov 11 2026. No macro, syntax, notation, axiom, sorry.
-/
import Derived.Test.YtdigpeipklfaeaaDoorChecked
import GoSem.Claim
import GoSem.ClaimJoined
import GoSem.ClaimMapViews
import Derived.JoinedTies
import Derived.KernelRfl
namespace Go.Proofs.YtdigpeipklfaeaaDoor
/- THE CELL 'sum', in the pinned program and in every row, IS THE sha256 OF THE DUMP (.gsa) THAT YtdigpeipklfaeaaDoorProg.lean LOADS. Nothing in Lean hashes anything: it is a label: what it is worth is what the hold of that sum in a sandbox is worth. -/
noncomputable def Tryd.pinned : Pinned := { name := "ytdigpeipklfaeaadoor", sum := "c796d9e745ef091d235e223856a2956b5a622509975386161a1ec92ebe543e4b", checked := Tryd.checked }
namespace Rows
def none {H : Type} : Left H := { results := [], args := [] }

/- WHAT THE LISTED PACKAGE-LEVEL VARIABLES READ AS WHEN THE CALL BEGINS. Each datum BY PROGRAM (the guide's laid-datum.mjs) off the statement by which the dump's own 'gosem.cut.vars' lays the variable. In a bare row this is a premise. The card (YtdigpeipklfaeaaDoorCards.lean) ties it to the program's text. -/
def laid_packhorse_crc_steps {H : Type} : DataW H := .agg [.lit (.int .u32 0), .lit (.int .u32 498536548), .lit (.int .u32 997073096), .lit (.int .u32 651767980), .lit (.int .u32 1994146192), .lit (.int .u32 1802195444), .lit (.int .u32 1303535960), .lit (.int .u32 1342533948), .lit (.int .u32 3988292384), .lit (.int .u32 4027552580), .lit (.int .u32 3604390888), .lit (.int .u32 3412177804), .lit (.int .u32 2607071920), .lit (.int .u32 2262029012), .lit (.int .u32 2685067896), .lit (.int .u32 3183342108)]

/-- 'packhorselaw10.WalRecord': WHATEVER THE INPUT: true; the input reads as it did. -/
def walRecordSpec : ChangeSpec := { name := "walRecord", fn := fun _ => fun
  | [d1, d2] => { results := [.lit (.bool true)], args := [d1, d2] }
  | _ => none }
def walRecordRow : OpenClaim := { program := "ytdigpeipklfaeaadoor", sum := "c796d9e745ef091d235e223856a2956b5a622509975386161a1ec92ebe543e4b", func := "packhorse/packhorselaw10.WalRecord", spec := "walRecord", unfollowed := true, recurses := true, named := ["packhorse/crc.steps"], apart := false, laid := [("packhorse/crc.steps", laid_packhorse_crc_steps)] }
def WalRecordSaid : Prop := walRecordRow.holds Tryd.pinned (OpenSpec.ofChange walRecordSpec)

/-- ITS FALSE NEIGHBOUR: 'it returns false'. Refute it at one input. -/
def walRecordWrong : ChangeSpec := { name := "walRecord", fn := fun _ => fun
  | [d1, d2] => { results := [.lit (.bool false)], args := [d1, d2] }
  | _ => none }
def WalRecordWrongFalsely : Prop := walRecordRow.holds Tryd.pinned (OpenSpec.ofChange walRecordWrong)

/-- 'packhorselaw10.WalScan': WHATEVER THE INPUT: true; the input reads as it did. -/
def walScanSpec : ChangeSpec := { name := "walScan", fn := fun _ => fun
  | [d1, d2, d3, d4, d5] => { results := [.lit (.bool true)], args := [d1, d2, d3, d4, d5] }
  | _ => none }
def walScanRow : OpenClaim := { program := "ytdigpeipklfaeaadoor", sum := "c796d9e745ef091d235e223856a2956b5a622509975386161a1ec92ebe543e4b", func := "packhorse/packhorselaw10.WalScan", spec := "walScan", unfollowed := true, recurses := true, named := ["packhorse/crc.steps"], apart := false, laid := [("packhorse/crc.steps", laid_packhorse_crc_steps)] }
def WalScanSaid : Prop := walScanRow.holds Tryd.pinned (OpenSpec.ofChange walScanSpec)

/-- ITS FALSE NEIGHBOUR: 'it returns false'. Refute it at one input. -/
def walScanWrong : ChangeSpec := { name := "walScan", fn := fun _ => fun
  | [d1, d2, d3, d4, d5] => { results := [.lit (.bool false)], args := [d1, d2, d3, d4, d5] }
  | _ => none }
def WalScanWrongFalsely : Prop := walScanRow.holds Tryd.pinned (OpenSpec.ofChange walScanWrong)

/-- 'packhorselaw10.WalAny': WHATEVER THE INPUT: true; the input reads as it did. -/
def walAnySpec : ChangeSpec := { name := "walAny", fn := fun _ => fun
  | [d] => { results := [.lit (.bool true)], args := [d] }
  | _ => none }
def walAnyRow : OpenClaim := { program := "ytdigpeipklfaeaadoor", sum := "c796d9e745ef091d235e223856a2956b5a622509975386161a1ec92ebe543e4b", func := "packhorse/packhorselaw10.WalAny", spec := "walAny", unfollowed := true, recurses := true, named := ["packhorse/crc.steps"], apart := false, laid := [("packhorse/crc.steps", laid_packhorse_crc_steps)] }
def WalAnySaid : Prop := walAnyRow.holds Tryd.pinned (OpenSpec.ofChange walAnySpec)

/-- ITS FALSE NEIGHBOUR: 'it returns false'. Refute it at one input. -/
def walAnyWrong : ChangeSpec := { name := "walAny", fn := fun _ => fun
  | [d] => { results := [.lit (.bool false)], args := [d] }
  | _ => none }
def WalAnyWrongFalsely : Prop := walAnyRow.holds Tryd.pinned (OpenSpec.ofChange walAnyWrong)

/-- 'packhorselaw10.WalSnap': WHATEVER THE INPUT: true; the input reads as it did. -/
def walSnapSpec : ChangeSpec := { name := "walSnap", fn := fun _ => fun
  | [d1, d2, d3, d4, d5, d6] => { results := [.lit (.bool true)], args := [d1, d2, d3, d4, d5, d6] }
  | _ => none }
def walSnapRow : OpenClaim := { program := "ytdigpeipklfaeaadoor", sum := "c796d9e745ef091d235e223856a2956b5a622509975386161a1ec92ebe543e4b", func := "packhorse/packhorselaw10.WalSnap", spec := "walSnap", unfollowed := true, recurses := true, named := ["packhorse/crc.steps"], apart := false, laid := [("packhorse/crc.steps", laid_packhorse_crc_steps)] }
def WalSnapSaid : Prop := walSnapRow.holds Tryd.pinned (OpenSpec.ofChange walSnapSpec)

/-- ITS FALSE NEIGHBOUR: 'it returns false'. Refute it at one input. -/
def walSnapWrong : ChangeSpec := { name := "walSnap", fn := fun _ => fun
  | [d1, d2, d3, d4, d5, d6] => { results := [.lit (.bool false)], args := [d1, d2, d3, d4, d5, d6] }
  | _ => none }
def WalSnapWrongFalsely : Prop := walSnapRow.holds Tryd.pinned (OpenSpec.ofChange walSnapWrong)

/-- 'packhorselaw10.WalTorn': WHATEVER THE INPUT: true; the input reads as it did. -/
def walTornSpec : ChangeSpec := { name := "walTorn", fn := fun _ => fun
  | [d1, d2] => { results := [.lit (.bool true)], args := [d1, d2] }
  | _ => none }
def walTornRow : OpenClaim := { program := "ytdigpeipklfaeaadoor", sum := "c796d9e745ef091d235e223856a2956b5a622509975386161a1ec92ebe543e4b", func := "packhorse/packhorselaw10.WalTorn", spec := "walTorn", unfollowed := true, recurses := true, named := ["packhorse/crc.steps"], apart := false, laid := [("packhorse/crc.steps", laid_packhorse_crc_steps)] }
def WalTornSaid : Prop := walTornRow.holds Tryd.pinned (OpenSpec.ofChange walTornSpec)

/-- ITS FALSE NEIGHBOUR: 'it returns false'. Refute it at one input. -/
def walTornWrong : ChangeSpec := { name := "walTorn", fn := fun _ => fun
  | [d1, d2] => { results := [.lit (.bool false)], args := [d1, d2] }
  | _ => none }
def WalTornWrongFalsely : Prop := walTornRow.holds Tryd.pinned (OpenSpec.ofChange walTornWrong)

/-- 'packhorselaw10.WalEnds': WHATEVER THE INPUT: true; the input reads as it did. -/
def walEndsSpec : ChangeSpec := { name := "walEnds", fn := fun _ => fun
  | [d1, d2, d3, d4] => { results := [.lit (.bool true)], args := [d1, d2, d3, d4] }
  | _ => none }
def walEndsRow : OpenClaim := { program := "ytdigpeipklfaeaadoor", sum := "c796d9e745ef091d235e223856a2956b5a622509975386161a1ec92ebe543e4b", func := "packhorse/packhorselaw10.WalEnds", spec := "walEnds", unfollowed := true, recurses := true, named := ["packhorse/crc.steps"], apart := false, laid := [("packhorse/crc.steps", laid_packhorse_crc_steps)] }
def WalEndsSaid : Prop := walEndsRow.holds Tryd.pinned (OpenSpec.ofChange walEndsSpec)

/-- ITS FALSE NEIGHBOUR: 'it returns false'. Refute it at one input. -/
def walEndsWrong : ChangeSpec := { name := "walEnds", fn := fun _ => fun
  | [d1, d2, d3, d4] => { results := [.lit (.bool false)], args := [d1, d2, d3, d4] }
  | _ => none }
def WalEndsWrongFalsely : Prop := walEndsRow.holds Tryd.pinned (OpenSpec.ofChange walEndsWrong)

/-- 'packhorselaw10.WalBig': WHATEVER THE INPUT: true; the input reads as it did. -/
def walBigSpec : ChangeSpec := { name := "walBig", fn := fun _ => fun
  | [d] => { results := [.lit (.bool true)], args := [d] }
  | _ => none }
def walBigRow : OpenClaim := { program := "ytdigpeipklfaeaadoor", sum := "c796d9e745ef091d235e223856a2956b5a622509975386161a1ec92ebe543e4b", func := "packhorse/packhorselaw10.WalBig", spec := "walBig", unfollowed := true, recurses := true, named := ["packhorse/crc.steps"], apart := false, laid := [("packhorse/crc.steps", laid_packhorse_crc_steps)] }
def WalBigSaid : Prop := walBigRow.holds Tryd.pinned (OpenSpec.ofChange walBigSpec)

/-- ITS FALSE NEIGHBOUR: 'it returns false'. Refute it at one input. -/
def walBigWrong : ChangeSpec := { name := "walBig", fn := fun _ => fun
  | [d] => { results := [.lit (.bool false)], args := [d] }
  | _ => none }
def WalBigWrongFalsely : Prop := walBigRow.holds Tryd.pinned (OpenSpec.ofChange walBigWrong)

/- THE SECOND FORM. 'bulk': how many values and letters a reading holds, each counted each time it is reached (what is shared counts as often as it is met; a slice's spare places count too). A statement '..UptoSaid' is the law's where the arguments, and the package variables that the reading takes, are together of bulk at most 1048576: NARROWER than '..Said'. Prove '..Said' where nothing that the law and all that it calls make is longer than what came in: it says more and counts as full. Else prove '..UptoSaid'. A law counts once. -/
mutual
def uptoBulk {H : Type} : DataW H → Nat
  | .lit (.string bytes) => bytes.length + 1
  | .lit _ => 1
  | .nil => 1
  | .ptr d => uptoBulk d + 1
  | .slice elems spare => uptoBulkAll elems + uptoBulkAll spare + 1
  | .agg parts => uptoBulkAll parts + 1
  | .iface _ d => uptoBulk d + 1
  | .map entries => uptoBulkEntries entries + 1
  | .held _ => 1
def uptoBulkAll {H : Type} : List (DataW H) → Nat
  | [] => 0
  | d :: r => uptoBulk d + uptoBulkAll r
def uptoBulkEntries {H : Type} : List (Lit × DataW H) → Nat
  | [] => 0
  | x :: r => uptoBulkEntry x + uptoBulkEntries r
def uptoBulkEntry {H : Type} : Lit × DataW H → Nat
  | (.string bytes, d) => bytes.length + uptoBulk d + 1
  | (_, d) => uptoBulk d + 1
 end
def uptoSmall : (H : Type) → List (DataW H) → Bool := fun _ ds => decide (uptoBulkAll ds ≤ 1048576)
def OpenSpec.upto (s : _root_.Go.ChangeSpec) : _root_.Go.OpenSpec := { _root_.Go.OpenSpec.ofChange s with cond := some uptoSmall }

/-- 'packhorselaw10.WalRecord', WHERE WHAT IT READS IS OF BULK AT MOST 1048576: true; the input reads as it did. -/
def walRecordUptoRow : OpenClaim := { program := "ytdigpeipklfaeaadoor", sum := "c796d9e745ef091d235e223856a2956b5a622509975386161a1ec92ebe543e4b", func := "packhorse/packhorselaw10.WalRecord", spec := "walRecord", unfollowed := true, recurses := true, named := ["packhorse/crc.steps"], apart := false, laid := [("packhorse/crc.steps", laid_packhorse_crc_steps)], narrowed := true }
def WalRecordUptoSaid : Prop := walRecordUptoRow.holds Tryd.pinned (OpenSpec.upto walRecordSpec)

/-- 'packhorselaw10.WalScan', WHERE WHAT IT READS IS OF BULK AT MOST 1048576: true; the input reads as it did. -/
def walScanUptoRow : OpenClaim := { program := "ytdigpeipklfaeaadoor", sum := "c796d9e745ef091d235e223856a2956b5a622509975386161a1ec92ebe543e4b", func := "packhorse/packhorselaw10.WalScan", spec := "walScan", unfollowed := true, recurses := true, named := ["packhorse/crc.steps"], apart := false, laid := [("packhorse/crc.steps", laid_packhorse_crc_steps)], narrowed := true }
def WalScanUptoSaid : Prop := walScanUptoRow.holds Tryd.pinned (OpenSpec.upto walScanSpec)

/-- 'packhorselaw10.WalAny', WHERE WHAT IT READS IS OF BULK AT MOST 1048576: true; the input reads as it did. -/
def walAnyUptoRow : OpenClaim := { program := "ytdigpeipklfaeaadoor", sum := "c796d9e745ef091d235e223856a2956b5a622509975386161a1ec92ebe543e4b", func := "packhorse/packhorselaw10.WalAny", spec := "walAny", unfollowed := true, recurses := true, named := ["packhorse/crc.steps"], apart := false, laid := [("packhorse/crc.steps", laid_packhorse_crc_steps)], narrowed := true }
def WalAnyUptoSaid : Prop := walAnyUptoRow.holds Tryd.pinned (OpenSpec.upto walAnySpec)

/-- 'packhorselaw10.WalSnap', WHERE WHAT IT READS IS OF BULK AT MOST 1048576: true; the input reads as it did. -/
def walSnapUptoRow : OpenClaim := { program := "ytdigpeipklfaeaadoor", sum := "c796d9e745ef091d235e223856a2956b5a622509975386161a1ec92ebe543e4b", func := "packhorse/packhorselaw10.WalSnap", spec := "walSnap", unfollowed := true, recurses := true, named := ["packhorse/crc.steps"], apart := false, laid := [("packhorse/crc.steps", laid_packhorse_crc_steps)], narrowed := true }
def WalSnapUptoSaid : Prop := walSnapUptoRow.holds Tryd.pinned (OpenSpec.upto walSnapSpec)

/-- 'packhorselaw10.WalTorn', WHERE WHAT IT READS IS OF BULK AT MOST 1048576: true; the input reads as it did. -/
def walTornUptoRow : OpenClaim := { program := "ytdigpeipklfaeaadoor", sum := "c796d9e745ef091d235e223856a2956b5a622509975386161a1ec92ebe543e4b", func := "packhorse/packhorselaw10.WalTorn", spec := "walTorn", unfollowed := true, recurses := true, named := ["packhorse/crc.steps"], apart := false, laid := [("packhorse/crc.steps", laid_packhorse_crc_steps)], narrowed := true }
def WalTornUptoSaid : Prop := walTornUptoRow.holds Tryd.pinned (OpenSpec.upto walTornSpec)

/-- 'packhorselaw10.WalEnds', WHERE WHAT IT READS IS OF BULK AT MOST 1048576: true; the input reads as it did. -/
def walEndsUptoRow : OpenClaim := { program := "ytdigpeipklfaeaadoor", sum := "c796d9e745ef091d235e223856a2956b5a622509975386161a1ec92ebe543e4b", func := "packhorse/packhorselaw10.WalEnds", spec := "walEnds", unfollowed := true, recurses := true, named := ["packhorse/crc.steps"], apart := false, laid := [("packhorse/crc.steps", laid_packhorse_crc_steps)], narrowed := true }
def WalEndsUptoSaid : Prop := walEndsUptoRow.holds Tryd.pinned (OpenSpec.upto walEndsSpec)

/-- 'packhorselaw10.WalBig', WHERE WHAT IT READS IS OF BULK AT MOST 1048576: true; the input reads as it did. -/
def walBigUptoRow : OpenClaim := { program := "ytdigpeipklfaeaadoor", sum := "c796d9e745ef091d235e223856a2956b5a622509975386161a1ec92ebe543e4b", func := "packhorse/packhorselaw10.WalBig", spec := "walBig", unfollowed := true, recurses := true, named := ["packhorse/crc.steps"], apart := false, laid := [("packhorse/crc.steps", laid_packhorse_crc_steps)], narrowed := true }
def WalBigUptoSaid : Prop := walBigUptoRow.holds Tryd.pinned (OpenSpec.upto walBigSpec)

end Rows
end Go.Proofs.YtdigpeipklfaeaaDoor
