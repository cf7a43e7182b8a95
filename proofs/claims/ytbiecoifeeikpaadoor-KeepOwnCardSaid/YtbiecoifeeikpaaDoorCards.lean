/-
  DERIVED. GIVEN WITH THE SEED: THE CARDS: each row of YtbiecoifeeikpaaDoorRows.lean that lists a variable, with what it lists TIED to the program's text (the seventh form; the later family's looks); each row that meets fmt, with fmt's text TOLD by the authors' own Lean function (tested against real Go, not proved from fmt's source: count such statements apart). THE CARD IS WHAT COUNTS. Prove the row's statement (the work); the ties are given (YtbiecoifeeikpaaDoorTie.lean); close each card by the builder's one call (the guide's Derived/Test/ToyasCard.lean, 'card_holds'). Laid BY PROGRAM, IN A SANDBOX (cutbox-door.mjs). By AI agents, Wed Nov 11 2026. No macro, syntax, notation, axiom, sorry.
-/
import Derived.Test.YtbiecoifeeikpaaDoorRows
import GoSem.ClaimSeven
namespace Go.Proofs.YtbiecoifeeikpaaDoor
namespace Rows

/-- THE TIED CARD OF 'packhorselaw11.KeepSpoilt'. -/
def keepSpoiltCard : Claim7 := { stood := { row := keepSpoiltRow, standIns := [], harness := (true, "3c3c7f2a39464036e0d30655af740e2f8166a8ef403bbb35dcd85598c149c975"), looks := false }, kinds := [], alts := [], laidByText := true, laidKinds := [.data], laidTests := true, laidLooks := .later }
def KeepSpoiltCardSaid : Prop := Claim7.holds Tryd.pinned (.plain (OpenSpec.ofChange keepSpoiltSpec)) keepSpoiltCard

/-- THE TIED CARD OF 'packhorselaw11.KeepOwn'. -/
def keepOwnCard : Claim7 := { stood := { row := keepOwnRow, standIns := [], harness := (true, "3c3c7f2a39464036e0d30655af740e2f8166a8ef403bbb35dcd85598c149c975"), looks := false }, kinds := [], alts := [], laidByText := true, laidKinds := [.data], laidTests := true, laidLooks := .later }
def KeepOwnCardSaid : Prop := Claim7.holds Tryd.pinned (.plain (OpenSpec.ofChange keepOwnSpec)) keepOwnCard

/-- THE SECOND FORM's CARD OF 'packhorselaw11.KeepSpoilt'. -/
def keepSpoiltUptoCard : Claim7 := { stood := { row := keepSpoiltUptoRow, standIns := [], harness := (true, "3c3c7f2a39464036e0d30655af740e2f8166a8ef403bbb35dcd85598c149c975"), looks := false }, kinds := [], alts := [], laidByText := true, laidKinds := [.data], laidTests := true, laidLooks := .later }
def KeepSpoiltUptoCardSaid : Prop := Claim7.holds Tryd.pinned (.plain (OpenSpec.upto keepSpoiltSpec)) keepSpoiltUptoCard

/-- THE SECOND FORM's CARD OF 'packhorselaw11.KeepOwn'. -/
def keepOwnUptoCard : Claim7 := { stood := { row := keepOwnUptoRow, standIns := [], harness := (true, "3c3c7f2a39464036e0d30655af740e2f8166a8ef403bbb35dcd85598c149c975"), looks := false }, kinds := [], alts := [], laidByText := true, laidKinds := [.data], laidTests := true, laidLooks := .later }
def KeepOwnUptoCardSaid : Prop := Claim7.holds Tryd.pinned (.plain (OpenSpec.upto keepOwnSpec)) keepOwnUptoCard
end Rows
end Go.Proofs.YtbiecoifeeikpaaDoor
