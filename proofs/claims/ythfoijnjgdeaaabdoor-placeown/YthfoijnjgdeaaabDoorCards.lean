/-
  DERIVED. GIVEN WITH THE SEED: THE CARDS: each row of YthfoijnjgdeaaabDoorRows.lean that lists a variable, with what it lists TIED to the program's text (the seventh form; the later family's looks); each row that meets fmt, with fmt's text TOLD by the authors' own Lean function (tested against real Go, not proved from fmt's source: count such statements apart). THE CARD IS WHAT COUNTS. Prove the row's statement (the work); the ties are given (YthfoijnjgdeaaabDoorTie.lean); close each card by the builder's one call (the guide's Derived/Test/ToyasCard.lean, 'card_holds'). Laid BY PROGRAM, IN A SANDBOX (cutbox-door.mjs). By AI agents, Wed Nov 11 2026. No macro, syntax, notation, axiom, sorry.
-/
import Derived.Test.YthfoijnjgdeaaabDoorRows
import GoSem.ClaimSeven
namespace Go.Proofs.YthfoijnjgdeaaabDoor
namespace Rows

/-- THE TIED CARD OF 'potsherdlaw06.PlaceOwn'. -/
def placeOwnCard : Claim7 := { stood := { row := placeOwnRow, standIns := [], harness := (true, "c49a019e792a557f2cfafd7c748ea94aae306c5951e712a0c53b8aba56bb5d0b"), looks := false }, kinds := [], alts := [], laidByText := true, laidKinds := [.data, .pinned], laidTests := true, laidLooks := .later }
def PlaceOwnCardSaid : Prop := Claim7.holds Tryd.pinned (.plain (OpenSpec.ofChange placeOwnSpec)) placeOwnCard

/-- THE SECOND FORM's CARD OF 'potsherdlaw06.PlaceOwn'. -/
def placeOwnUptoCard : Claim7 := { stood := { row := placeOwnUptoRow, standIns := [], harness := (true, "c49a019e792a557f2cfafd7c748ea94aae306c5951e712a0c53b8aba56bb5d0b"), looks := false }, kinds := [], alts := [], laidByText := true, laidKinds := [.data, .pinned], laidTests := true, laidLooks := .later }
def PlaceOwnUptoCardSaid : Prop := Claim7.holds Tryd.pinned (.plain (OpenSpec.upto placeOwnSpec)) placeOwnUptoCard
end Rows
end Go.Proofs.YthfoijnjgdeaaabDoor
