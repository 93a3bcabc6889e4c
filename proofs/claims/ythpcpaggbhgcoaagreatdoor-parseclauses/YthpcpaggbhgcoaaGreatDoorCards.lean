/-
  DERIVED. GIVEN WITH THE SEED: THE CARDS: each row of YthpcpaggbhgcoaaGreatDoorRows.lean that lists a variable, with what it lists TIED to the program's text (the seventh form; the later family's looks); each row that meets fmt, with fmt's text TOLD by the authors' own Lean function (tested against real Go, not proved from fmt's source: count such statements apart). THE CARD IS WHAT COUNTS. Prove the row's statement (the work); the ties are given (YthpcpaggbhgcoaaGreatDoorTie.lean); close each card by the builder's one call (the guide's Derived/Test/ToyasCard.lean, 'card_holds'). Laid BY PROGRAM, IN A SANDBOX (cutbox-door.mjs). By AI agents, Wed Nov 11 2026. No macro, syntax, notation, axiom, sorry.
-/
import Derived.Test.YthpcpaggbhgcoaaGreatDoorRows
import GoSem.ClaimSeven
namespace Go.Proofs.YthpcpaggbhgcoaaGreatDoor
namespace Rows

/-- THE TIED CARD OF 'potsherdlaw03.ParseOnce'. -/
def parseOnceCard : Claim7 := { stood := { row := parseOnceRow, standIns := [], harness := (true, "baaf47807bcb07639926fe7d7a1a4fa626b98e2d09e6a3fbbe0a8cbde0fd39e2"), looks := true }, kinds := [], alts := [], laidByText := true, laidKinds := [.data, .data, .data, .data, .sentinel, .sentinel, .data, .data, .pinned], laidTests := true, laidLooks := .later }
def ParseOnceCardSaid : Prop := Claim7.holds Tryz.pinned (.plain (OpenSpec.ofChange parseOnceSpec)) parseOnceCard

/-- THE TIED CARD OF 'potsherdlaw03.ParseClauses'. -/
def parseClausesCard : Claim7 := { stood := { row := parseClausesRow, standIns := [], harness := (true, "baaf47807bcb07639926fe7d7a1a4fa626b98e2d09e6a3fbbe0a8cbde0fd39e2"), looks := true }, kinds := [], alts := [], laidByText := true, laidKinds := [.data, .data, .data, .data, .sentinel, .sentinel, .data, .data, .pinned], laidTests := true, laidLooks := .later }
def ParseClausesCardSaid : Prop := Claim7.holds Tryz.pinned (.plain (OpenSpec.ofChange parseClausesSpec)) parseClausesCard

/-- THE TIED CARD OF 'potsherdlaw03.ParseOwn'. -/
def parseOwnCard : Claim7 := { stood := { row := parseOwnRow, standIns := [], harness := (true, "baaf47807bcb07639926fe7d7a1a4fa626b98e2d09e6a3fbbe0a8cbde0fd39e2"), looks := true }, kinds := [], alts := [], laidByText := true, laidKinds := [.data, .data, .data, .data, .sentinel, .sentinel, .data, .data, .pinned], laidTests := true, laidLooks := .later }
def ParseOwnCardSaid : Prop := Claim7.holds Tryz.pinned (.plain (OpenSpec.ofChange parseOwnSpec)) parseOwnCard

/-- THE SECOND FORM's CARD OF 'potsherdlaw03.ParseOnce'. -/
def parseOnceUptoCard : Claim7 := { stood := { row := parseOnceUptoRow, standIns := [], harness := (true, "baaf47807bcb07639926fe7d7a1a4fa626b98e2d09e6a3fbbe0a8cbde0fd39e2"), looks := true }, kinds := [], alts := [], laidByText := true, laidKinds := [.data, .data, .data, .data, .sentinel, .sentinel, .data, .data, .pinned], laidTests := true, laidLooks := .later }
def ParseOnceUptoCardSaid : Prop := Claim7.holds Tryz.pinned (.plain (OpenSpec.upto parseOnceSpec)) parseOnceUptoCard

/-- THE SECOND FORM's CARD OF 'potsherdlaw03.ParseClauses'. -/
def parseClausesUptoCard : Claim7 := { stood := { row := parseClausesUptoRow, standIns := [], harness := (true, "baaf47807bcb07639926fe7d7a1a4fa626b98e2d09e6a3fbbe0a8cbde0fd39e2"), looks := true }, kinds := [], alts := [], laidByText := true, laidKinds := [.data, .data, .data, .data, .sentinel, .sentinel, .data, .data, .pinned], laidTests := true, laidLooks := .later }
def ParseClausesUptoCardSaid : Prop := Claim7.holds Tryz.pinned (.plain (OpenSpec.upto parseClausesSpec)) parseClausesUptoCard

/-- THE SECOND FORM's CARD OF 'potsherdlaw03.ParseOwn'. -/
def parseOwnUptoCard : Claim7 := { stood := { row := parseOwnUptoRow, standIns := [], harness := (true, "baaf47807bcb07639926fe7d7a1a4fa626b98e2d09e6a3fbbe0a8cbde0fd39e2"), looks := true }, kinds := [], alts := [], laidByText := true, laidKinds := [.data, .data, .data, .data, .sentinel, .sentinel, .data, .data, .pinned], laidTests := true, laidLooks := .later }
def ParseOwnUptoCardSaid : Prop := Claim7.holds Tryz.pinned (.plain (OpenSpec.upto parseOwnSpec)) parseOwnUptoCard
end Rows
end Go.Proofs.YthpcpaggbhgcoaaGreatDoor
