/-
  DERIVED. GIVEN WITH THE SEED: THE CARDS: each row of YtgignmjojlolfaaDoorRows.lean that lists a variable, with what it lists TIED to the program's text (the seventh form; the later family's looks); each row that meets fmt, with fmt's text TOLD by the authors' own Lean function (tested against real Go, not proved from fmt's source: count such statements apart). THE CARD IS WHAT COUNTS. Prove the row's statement (the work); the ties are given (YtgignmjojlolfaaDoorTie.lean); close each card by the builder's one call (the guide's Derived/Test/ToyasCard.lean, 'card_holds'). Laid BY PROGRAM, IN A SANDBOX (cutbox-door.mjs). By AI agents, Wed Nov 11 2026. No macro, syntax, notation, axiom, sorry.
-/
import Derived.Test.YtgignmjojlolfaaDoorRows
import GoSem.ClaimSeven
namespace Go.Proofs.YtgignmjojlolfaaDoor
namespace Rows

/-- THE TIED CARD OF 'waterlinelaw7.AreaPlays'. -/
def areaPlaysCard : Claim7 := { stood := { row := areaPlaysRow, standIns := [], harness := (true, "d4b5a964a79521097094c2623301de436a598f9bd3b852b7a7c8e8d13cb2a7d8"), looks := true }, kinds := [], alts := [], laidByText := true, laidKinds := [.data, .data], laidTests := true, laidLooks := .later }
def AreaPlaysCardSaid : Prop := Claim7.holds Tryd.pinned (.plain (OpenSpec.ofChange areaPlaysSpec)) areaPlaysCard

/-- THE TIED CARD OF 'waterlinelaw7.AreaApart'. -/
def areaApartCard : Claim7 := { stood := { row := areaApartRow, standIns := [], harness := (true, "d4b5a964a79521097094c2623301de436a598f9bd3b852b7a7c8e8d13cb2a7d8"), looks := true }, kinds := [], alts := [], laidByText := true, laidKinds := [.data, .data], laidTests := true, laidLooks := .later }
def AreaApartCardSaid : Prop := Claim7.holds Tryd.pinned (.plain (OpenSpec.ofChange areaApartSpec)) areaApartCard

/-- THE SECOND FORM's CARD OF 'waterlinelaw7.AreaPlays'. -/
def areaPlaysUptoCard : Claim7 := { stood := { row := areaPlaysUptoRow, standIns := [], harness := (true, "d4b5a964a79521097094c2623301de436a598f9bd3b852b7a7c8e8d13cb2a7d8"), looks := true }, kinds := [], alts := [], laidByText := true, laidKinds := [.data, .data], laidTests := true, laidLooks := .later }
def AreaPlaysUptoCardSaid : Prop := Claim7.holds Tryd.pinned (.plain (OpenSpec.upto areaPlaysSpec)) areaPlaysUptoCard

/-- THE SECOND FORM's CARD OF 'waterlinelaw7.AreaApart'. -/
def areaApartUptoCard : Claim7 := { stood := { row := areaApartUptoRow, standIns := [], harness := (true, "d4b5a964a79521097094c2623301de436a598f9bd3b852b7a7c8e8d13cb2a7d8"), looks := true }, kinds := [], alts := [], laidByText := true, laidKinds := [.data, .data], laidTests := true, laidLooks := .later }
def AreaApartUptoCardSaid : Prop := Claim7.holds Tryd.pinned (.plain (OpenSpec.upto areaApartSpec)) areaApartUptoCard
end Rows
end Go.Proofs.YtgignmjojlolfaaDoor
