/-
  DERIVED. GIVEN WITH THE SEED: THE CARDS: each row of YtmoaacaopphgbaaDoorRows.lean that lists a variable, with what it lists TIED to the program's text (the seventh form; the later family's looks); each row that meets fmt, with fmt's text TOLD by the authors' own Lean function (tested against real Go, not proved from fmt's source: count such statements apart). THE CARD IS WHAT COUNTS. Prove the row's statement (the work); the ties are given (YtmoaacaopphgbaaDoorTie.lean); close each card by the builder's one call (the guide's Derived/Test/ToyasCard.lean, 'card_holds'). Laid BY PROGRAM, IN A SANDBOX (cutbox-door.mjs). By AI agents, Wed Nov 11 2026. No macro, syntax, notation, axiom, sorry.
-/
import Derived.Test.YtmoaacaopphgbaaDoorRows
import GoSem.ClaimSeven
namespace Go.Proofs.YtmoaacaopphgbaaDoor
namespace Rows

/-- THE TIED CARD OF 'packhorselaw11.KeepSpoilt'. -/
def keepSpoiltCard : Claim7 := { stood := { row := keepSpoiltRow, standIns := [], harness := (true, "f22db36bb8be65b150b932d2cc3aca8dff66c403d469392c1a781bc9fab2b39f"), looks := false }, kinds := [], alts := [], laidByText := true, laidKinds := [.data], laidTests := true, laidLooks := .later }
def KeepSpoiltCardSaid : Prop := Claim7.holds Tryd.pinned (.plain (OpenSpec.ofChange keepSpoiltSpec)) keepSpoiltCard

/-- THE TIED CARD OF 'packhorselaw11.KeepNone'. -/
def keepNoneCard : Claim7 := { stood := { row := keepNoneRow, standIns := [], harness := (true, "f22db36bb8be65b150b932d2cc3aca8dff66c403d469392c1a781bc9fab2b39f"), looks := false }, kinds := [], alts := [], laidByText := true, laidKinds := [.data], laidTests := true, laidLooks := .later }
def KeepNoneCardSaid : Prop := Claim7.holds Tryd.pinned (.plain (OpenSpec.ofChange keepNoneSpec)) keepNoneCard

/-- THE TIED CARD OF 'packhorselaw11.KeepLaid'. -/
def keepLaidCard : Claim7 := { stood := { row := keepLaidRow, standIns := [], harness := (true, "f22db36bb8be65b150b932d2cc3aca8dff66c403d469392c1a781bc9fab2b39f"), looks := false }, kinds := [], alts := [], laidByText := true, laidKinds := [.data], laidTests := true, laidLooks := .later }
def KeepLaidCardSaid : Prop := Claim7.holds Tryd.pinned (.plain (OpenSpec.ofChange keepLaidSpec)) keepLaidCard

/-- THE TIED CARD OF 'packhorselaw11.KeepSnap'. -/
def keepSnapCard : Claim7 := { stood := { row := keepSnapRow, standIns := [], harness := (true, "f22db36bb8be65b150b932d2cc3aca8dff66c403d469392c1a781bc9fab2b39f"), looks := false }, kinds := [], alts := [], laidByText := true, laidKinds := [.data], laidTests := true, laidLooks := .later }
def KeepSnapCardSaid : Prop := Claim7.holds Tryd.pinned (.plain (OpenSpec.ofChange keepSnapSpec)) keepSnapCard

/-- THE TIED CARD OF 'packhorselaw11.KeepFull'. -/
def keepFullCard : Claim7 := { stood := { row := keepFullRow, standIns := [], harness := (true, "f22db36bb8be65b150b932d2cc3aca8dff66c403d469392c1a781bc9fab2b39f"), looks := false }, kinds := [], alts := [], laidByText := true, laidKinds := [.data], laidTests := true, laidLooks := .later }
def KeepFullCardSaid : Prop := Claim7.holds Tryd.pinned (.plain (OpenSpec.ofChange keepFullSpec)) keepFullCard

/-- THE TIED CARD OF 'packhorselaw11.KeepOwn'. -/
def keepOwnCard : Claim7 := { stood := { row := keepOwnRow, standIns := [], harness := (true, "f22db36bb8be65b150b932d2cc3aca8dff66c403d469392c1a781bc9fab2b39f"), looks := false }, kinds := [], alts := [], laidByText := true, laidKinds := [.data], laidTests := true, laidLooks := .later }
def KeepOwnCardSaid : Prop := Claim7.holds Tryd.pinned (.plain (OpenSpec.ofChange keepOwnSpec)) keepOwnCard

/-- THE TIED CARD OF 'packhorselaw10.WalSnap'. -/
def walSnapCard : Claim7 := { stood := { row := walSnapRow, standIns := [], harness := (true, "f22db36bb8be65b150b932d2cc3aca8dff66c403d469392c1a781bc9fab2b39f"), looks := false }, kinds := [], alts := [], laidByText := true, laidKinds := [.data], laidTests := true, laidLooks := .later }
def WalSnapCardSaid : Prop := Claim7.holds Tryd.pinned (.plain (OpenSpec.ofChange walSnapSpec)) walSnapCard

/-- THE SECOND FORM's CARD OF 'packhorselaw11.KeepSpoilt'. -/
def keepSpoiltUptoCard : Claim7 := { stood := { row := keepSpoiltUptoRow, standIns := [], harness := (true, "f22db36bb8be65b150b932d2cc3aca8dff66c403d469392c1a781bc9fab2b39f"), looks := false }, kinds := [], alts := [], laidByText := true, laidKinds := [.data], laidTests := true, laidLooks := .later }
def KeepSpoiltUptoCardSaid : Prop := Claim7.holds Tryd.pinned (.plain (OpenSpec.upto keepSpoiltSpec)) keepSpoiltUptoCard

/-- THE SECOND FORM's CARD OF 'packhorselaw11.KeepNone'. -/
def keepNoneUptoCard : Claim7 := { stood := { row := keepNoneUptoRow, standIns := [], harness := (true, "f22db36bb8be65b150b932d2cc3aca8dff66c403d469392c1a781bc9fab2b39f"), looks := false }, kinds := [], alts := [], laidByText := true, laidKinds := [.data], laidTests := true, laidLooks := .later }
def KeepNoneUptoCardSaid : Prop := Claim7.holds Tryd.pinned (.plain (OpenSpec.upto keepNoneSpec)) keepNoneUptoCard

/-- THE SECOND FORM's CARD OF 'packhorselaw11.KeepLaid'. -/
def keepLaidUptoCard : Claim7 := { stood := { row := keepLaidUptoRow, standIns := [], harness := (true, "f22db36bb8be65b150b932d2cc3aca8dff66c403d469392c1a781bc9fab2b39f"), looks := false }, kinds := [], alts := [], laidByText := true, laidKinds := [.data], laidTests := true, laidLooks := .later }
def KeepLaidUptoCardSaid : Prop := Claim7.holds Tryd.pinned (.plain (OpenSpec.upto keepLaidSpec)) keepLaidUptoCard

/-- THE SECOND FORM's CARD OF 'packhorselaw11.KeepSnap'. -/
def keepSnapUptoCard : Claim7 := { stood := { row := keepSnapUptoRow, standIns := [], harness := (true, "f22db36bb8be65b150b932d2cc3aca8dff66c403d469392c1a781bc9fab2b39f"), looks := false }, kinds := [], alts := [], laidByText := true, laidKinds := [.data], laidTests := true, laidLooks := .later }
def KeepSnapUptoCardSaid : Prop := Claim7.holds Tryd.pinned (.plain (OpenSpec.upto keepSnapSpec)) keepSnapUptoCard

/-- THE SECOND FORM's CARD OF 'packhorselaw11.KeepFull'. -/
def keepFullUptoCard : Claim7 := { stood := { row := keepFullUptoRow, standIns := [], harness := (true, "f22db36bb8be65b150b932d2cc3aca8dff66c403d469392c1a781bc9fab2b39f"), looks := false }, kinds := [], alts := [], laidByText := true, laidKinds := [.data], laidTests := true, laidLooks := .later }
def KeepFullUptoCardSaid : Prop := Claim7.holds Tryd.pinned (.plain (OpenSpec.upto keepFullSpec)) keepFullUptoCard

/-- THE SECOND FORM's CARD OF 'packhorselaw11.KeepOwn'. -/
def keepOwnUptoCard : Claim7 := { stood := { row := keepOwnUptoRow, standIns := [], harness := (true, "f22db36bb8be65b150b932d2cc3aca8dff66c403d469392c1a781bc9fab2b39f"), looks := false }, kinds := [], alts := [], laidByText := true, laidKinds := [.data], laidTests := true, laidLooks := .later }
def KeepOwnUptoCardSaid : Prop := Claim7.holds Tryd.pinned (.plain (OpenSpec.upto keepOwnSpec)) keepOwnUptoCard

/-- THE SECOND FORM's CARD OF 'packhorselaw10.WalSnap'. -/
def walSnapUptoCard : Claim7 := { stood := { row := walSnapUptoRow, standIns := [], harness := (true, "f22db36bb8be65b150b932d2cc3aca8dff66c403d469392c1a781bc9fab2b39f"), looks := false }, kinds := [], alts := [], laidByText := true, laidKinds := [.data], laidTests := true, laidLooks := .later }
def WalSnapUptoCardSaid : Prop := Claim7.holds Tryd.pinned (.plain (OpenSpec.upto walSnapSpec)) walSnapUptoCard
end Rows
end Go.Proofs.YtmoaacaopphgbaaDoor
