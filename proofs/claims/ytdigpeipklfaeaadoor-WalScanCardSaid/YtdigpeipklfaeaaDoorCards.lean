/-
  DERIVED. GIVEN WITH THE SEED: THE CARDS: each row of YtdigpeipklfaeaaDoorRows.lean that lists a variable, with what it lists TIED to the program's text (the seventh form; the later family's looks); each row that meets fmt, with fmt's text TOLD by the authors' own Lean function (tested against real Go, not proved from fmt's source: count such statements apart). THE CARD IS WHAT COUNTS. Prove the row's statement (the work); the ties are given (YtdigpeipklfaeaaDoorTie.lean); close each card by the builder's one call (the guide's Derived/Test/ToyasCard.lean, 'card_holds'). Laid BY PROGRAM, IN A SANDBOX (cutbox-door.mjs). By AI agents, Wed Nov 11 2026. No macro, syntax, notation, axiom, sorry.
-/
import Derived.Test.YtdigpeipklfaeaaDoorRows
import GoSem.ClaimSeven
namespace Go.Proofs.YtdigpeipklfaeaaDoor
namespace Rows

/-- THE TIED CARD OF 'packhorselaw10.WalRecord'. -/
def walRecordCard : Claim7 := { stood := { row := walRecordRow, standIns := [], harness := (true, "5f4ab60a0d8aff1181982e7adb34931d96a4c554f7deabd03106a1efee8ea153"), looks := false }, kinds := [], alts := [], laidByText := true, laidKinds := [.data], laidTests := true, laidLooks := .later }
def WalRecordCardSaid : Prop := Claim7.holds Tryd.pinned (.plain (OpenSpec.ofChange walRecordSpec)) walRecordCard

/-- THE TIED CARD OF 'packhorselaw10.WalScan'. -/
def walScanCard : Claim7 := { stood := { row := walScanRow, standIns := [], harness := (true, "5f4ab60a0d8aff1181982e7adb34931d96a4c554f7deabd03106a1efee8ea153"), looks := false }, kinds := [], alts := [], laidByText := true, laidKinds := [.data], laidTests := true, laidLooks := .later }
def WalScanCardSaid : Prop := Claim7.holds Tryd.pinned (.plain (OpenSpec.ofChange walScanSpec)) walScanCard

/-- THE TIED CARD OF 'packhorselaw10.WalAny'. -/
def walAnyCard : Claim7 := { stood := { row := walAnyRow, standIns := [], harness := (true, "5f4ab60a0d8aff1181982e7adb34931d96a4c554f7deabd03106a1efee8ea153"), looks := false }, kinds := [], alts := [], laidByText := true, laidKinds := [.data], laidTests := true, laidLooks := .later }
def WalAnyCardSaid : Prop := Claim7.holds Tryd.pinned (.plain (OpenSpec.ofChange walAnySpec)) walAnyCard

/-- THE TIED CARD OF 'packhorselaw10.WalSnap'. -/
def walSnapCard : Claim7 := { stood := { row := walSnapRow, standIns := [], harness := (true, "5f4ab60a0d8aff1181982e7adb34931d96a4c554f7deabd03106a1efee8ea153"), looks := false }, kinds := [], alts := [], laidByText := true, laidKinds := [.data], laidTests := true, laidLooks := .later }
def WalSnapCardSaid : Prop := Claim7.holds Tryd.pinned (.plain (OpenSpec.ofChange walSnapSpec)) walSnapCard

/-- THE TIED CARD OF 'packhorselaw10.WalTorn'. -/
def walTornCard : Claim7 := { stood := { row := walTornRow, standIns := [], harness := (true, "5f4ab60a0d8aff1181982e7adb34931d96a4c554f7deabd03106a1efee8ea153"), looks := false }, kinds := [], alts := [], laidByText := true, laidKinds := [.data], laidTests := true, laidLooks := .later }
def WalTornCardSaid : Prop := Claim7.holds Tryd.pinned (.plain (OpenSpec.ofChange walTornSpec)) walTornCard

/-- THE TIED CARD OF 'packhorselaw10.WalEnds'. -/
def walEndsCard : Claim7 := { stood := { row := walEndsRow, standIns := [], harness := (true, "5f4ab60a0d8aff1181982e7adb34931d96a4c554f7deabd03106a1efee8ea153"), looks := false }, kinds := [], alts := [], laidByText := true, laidKinds := [.data], laidTests := true, laidLooks := .later }
def WalEndsCardSaid : Prop := Claim7.holds Tryd.pinned (.plain (OpenSpec.ofChange walEndsSpec)) walEndsCard

/-- THE TIED CARD OF 'packhorselaw10.WalBig'. -/
def walBigCard : Claim7 := { stood := { row := walBigRow, standIns := [], harness := (true, "5f4ab60a0d8aff1181982e7adb34931d96a4c554f7deabd03106a1efee8ea153"), looks := false }, kinds := [], alts := [], laidByText := true, laidKinds := [.data], laidTests := true, laidLooks := .later }
def WalBigCardSaid : Prop := Claim7.holds Tryd.pinned (.plain (OpenSpec.ofChange walBigSpec)) walBigCard

/-- THE SECOND FORM's CARD OF 'packhorselaw10.WalRecord'. -/
def walRecordUptoCard : Claim7 := { stood := { row := walRecordUptoRow, standIns := [], harness := (true, "5f4ab60a0d8aff1181982e7adb34931d96a4c554f7deabd03106a1efee8ea153"), looks := false }, kinds := [], alts := [], laidByText := true, laidKinds := [.data], laidTests := true, laidLooks := .later }
def WalRecordUptoCardSaid : Prop := Claim7.holds Tryd.pinned (.plain (OpenSpec.upto walRecordSpec)) walRecordUptoCard

/-- THE SECOND FORM's CARD OF 'packhorselaw10.WalScan'. -/
def walScanUptoCard : Claim7 := { stood := { row := walScanUptoRow, standIns := [], harness := (true, "5f4ab60a0d8aff1181982e7adb34931d96a4c554f7deabd03106a1efee8ea153"), looks := false }, kinds := [], alts := [], laidByText := true, laidKinds := [.data], laidTests := true, laidLooks := .later }
def WalScanUptoCardSaid : Prop := Claim7.holds Tryd.pinned (.plain (OpenSpec.upto walScanSpec)) walScanUptoCard

/-- THE SECOND FORM's CARD OF 'packhorselaw10.WalAny'. -/
def walAnyUptoCard : Claim7 := { stood := { row := walAnyUptoRow, standIns := [], harness := (true, "5f4ab60a0d8aff1181982e7adb34931d96a4c554f7deabd03106a1efee8ea153"), looks := false }, kinds := [], alts := [], laidByText := true, laidKinds := [.data], laidTests := true, laidLooks := .later }
def WalAnyUptoCardSaid : Prop := Claim7.holds Tryd.pinned (.plain (OpenSpec.upto walAnySpec)) walAnyUptoCard

/-- THE SECOND FORM's CARD OF 'packhorselaw10.WalSnap'. -/
def walSnapUptoCard : Claim7 := { stood := { row := walSnapUptoRow, standIns := [], harness := (true, "5f4ab60a0d8aff1181982e7adb34931d96a4c554f7deabd03106a1efee8ea153"), looks := false }, kinds := [], alts := [], laidByText := true, laidKinds := [.data], laidTests := true, laidLooks := .later }
def WalSnapUptoCardSaid : Prop := Claim7.holds Tryd.pinned (.plain (OpenSpec.upto walSnapSpec)) walSnapUptoCard

/-- THE SECOND FORM's CARD OF 'packhorselaw10.WalTorn'. -/
def walTornUptoCard : Claim7 := { stood := { row := walTornUptoRow, standIns := [], harness := (true, "5f4ab60a0d8aff1181982e7adb34931d96a4c554f7deabd03106a1efee8ea153"), looks := false }, kinds := [], alts := [], laidByText := true, laidKinds := [.data], laidTests := true, laidLooks := .later }
def WalTornUptoCardSaid : Prop := Claim7.holds Tryd.pinned (.plain (OpenSpec.upto walTornSpec)) walTornUptoCard

/-- THE SECOND FORM's CARD OF 'packhorselaw10.WalEnds'. -/
def walEndsUptoCard : Claim7 := { stood := { row := walEndsUptoRow, standIns := [], harness := (true, "5f4ab60a0d8aff1181982e7adb34931d96a4c554f7deabd03106a1efee8ea153"), looks := false }, kinds := [], alts := [], laidByText := true, laidKinds := [.data], laidTests := true, laidLooks := .later }
def WalEndsUptoCardSaid : Prop := Claim7.holds Tryd.pinned (.plain (OpenSpec.upto walEndsSpec)) walEndsUptoCard

/-- THE SECOND FORM's CARD OF 'packhorselaw10.WalBig'. -/
def walBigUptoCard : Claim7 := { stood := { row := walBigUptoRow, standIns := [], harness := (true, "5f4ab60a0d8aff1181982e7adb34931d96a4c554f7deabd03106a1efee8ea153"), looks := false }, kinds := [], alts := [], laidByText := true, laidKinds := [.data], laidTests := true, laidLooks := .later }
def WalBigUptoCardSaid : Prop := Claim7.holds Tryd.pinned (.plain (OpenSpec.upto walBigSpec)) walBigUptoCard
end Rows
end Go.Proofs.YtdigpeipklfaeaaDoor
