/-
  DERIVED. GIVEN WITH THE SEED: THE CARDS: each row of YtmagfjlpjjmknaaDoorRows.lean that lists a variable, with what it lists TIED to the program's text (the seventh form; the later family's looks); each row that meets fmt, with fmt's text TOLD by the authors' own Lean function (tested against real Go, not proved from fmt's source: count such statements apart). THE CARD IS WHAT COUNTS. Prove the row's statement (the work); the ties are given (YtmagfjlpjjmknaaDoorTie.lean); close each card by the builder's one call (the guide's Derived/Test/ToyasCard.lean, 'card_holds'). Laid BY PROGRAM, IN A SANDBOX (cutbox-door.mjs). By AI agents, Wed Nov 11 2026. No macro, syntax, notation, axiom, sorry.
-/
import Derived.Test.YtmagfjlpjjmknaaDoorRows
import GoSem.ClaimSeven
namespace Go.Proofs.YtmagfjlpjjmknaaDoor
namespace Rows

/-- THE TIED CARD OF 'potsherdlaw01.ValueTimes'. -/
def valueTimesCard : Claim7 := { stood := { row := valueTimesRow, standIns := [], harness := (true, "9346c0f0ebc87260b555630d5f10bc13e12f572dd34aa1fb5255ca59a33bedc3"), looks := false }, kinds := [], alts := [], laidByText := true, laidKinds := [.data, .pinned], laidTests := true, laidLooks := .later }
def ValueTimesCardSaid : Prop := Claim7.holds Tryd.pinned (.plain (OpenSpec.ofChange valueTimesSpec)) valueTimesCard

/-- THE TIED CARD OF 'potsherdlaw01.ValueJoined'. -/
def valueJoinedCard : Claim7 := { stood := { row := valueJoinedRow, standIns := [], harness := (true, "9346c0f0ebc87260b555630d5f10bc13e12f572dd34aa1fb5255ca59a33bedc3"), looks := false }, kinds := [], alts := [], laidByText := true, laidKinds := [.data, .pinned], laidTests := true, laidLooks := .later }
def ValueJoinedCardSaid : Prop := Claim7.holds Tryd.pinned (.plain (OpenSpec.ofChange valueJoinedSpec)) valueJoinedCard

/-- THE TIED CARD OF 'potsherdlaw01.ValueOwn'. -/
def valueOwnCard : Claim7 := { stood := { row := valueOwnRow, standIns := [], harness := (true, "9346c0f0ebc87260b555630d5f10bc13e12f572dd34aa1fb5255ca59a33bedc3"), looks := false }, kinds := [], alts := [], laidByText := true, laidKinds := [.data, .pinned], laidTests := true, laidLooks := .later }
def ValueOwnCardSaid : Prop := Claim7.holds Tryd.pinned (.plain (OpenSpec.ofChange valueOwnSpec)) valueOwnCard

/-- THE TIED CARD OF 'potsherdlaw01.ValueRows'. -/
def valueRowsCard : Claim7 := { stood := { row := valueRowsRow, standIns := [], harness := (true, "9346c0f0ebc87260b555630d5f10bc13e12f572dd34aa1fb5255ca59a33bedc3"), looks := false }, kinds := [], alts := [], laidByText := true, laidKinds := [.data, .pinned], laidTests := true, laidLooks := .later }
def ValueRowsCardSaid : Prop := Claim7.holds Tryd.pinned (.plain (OpenSpec.ofChange valueRowsSpec)) valueRowsCard

/-- THE SECOND FORM's CARD OF 'potsherdlaw01.ValueTimes'. -/
def valueTimesUptoCard : Claim7 := { stood := { row := valueTimesUptoRow, standIns := [], harness := (true, "9346c0f0ebc87260b555630d5f10bc13e12f572dd34aa1fb5255ca59a33bedc3"), looks := false }, kinds := [], alts := [], laidByText := true, laidKinds := [.data, .pinned], laidTests := true, laidLooks := .later }
def ValueTimesUptoCardSaid : Prop := Claim7.holds Tryd.pinned (.plain (OpenSpec.upto valueTimesSpec)) valueTimesUptoCard

/-- THE SECOND FORM's CARD OF 'potsherdlaw01.ValueJoined'. -/
def valueJoinedUptoCard : Claim7 := { stood := { row := valueJoinedUptoRow, standIns := [], harness := (true, "9346c0f0ebc87260b555630d5f10bc13e12f572dd34aa1fb5255ca59a33bedc3"), looks := false }, kinds := [], alts := [], laidByText := true, laidKinds := [.data, .pinned], laidTests := true, laidLooks := .later }
def ValueJoinedUptoCardSaid : Prop := Claim7.holds Tryd.pinned (.plain (OpenSpec.upto valueJoinedSpec)) valueJoinedUptoCard

/-- THE SECOND FORM's CARD OF 'potsherdlaw01.ValueOwn'. -/
def valueOwnUptoCard : Claim7 := { stood := { row := valueOwnUptoRow, standIns := [], harness := (true, "9346c0f0ebc87260b555630d5f10bc13e12f572dd34aa1fb5255ca59a33bedc3"), looks := false }, kinds := [], alts := [], laidByText := true, laidKinds := [.data, .pinned], laidTests := true, laidLooks := .later }
def ValueOwnUptoCardSaid : Prop := Claim7.holds Tryd.pinned (.plain (OpenSpec.upto valueOwnSpec)) valueOwnUptoCard

/-- THE SECOND FORM's CARD OF 'potsherdlaw01.ValueRows'. -/
def valueRowsUptoCard : Claim7 := { stood := { row := valueRowsUptoRow, standIns := [], harness := (true, "9346c0f0ebc87260b555630d5f10bc13e12f572dd34aa1fb5255ca59a33bedc3"), looks := false }, kinds := [], alts := [], laidByText := true, laidKinds := [.data, .pinned], laidTests := true, laidLooks := .later }
def ValueRowsUptoCardSaid : Prop := Claim7.holds Tryd.pinned (.plain (OpenSpec.upto valueRowsSpec)) valueRowsUptoCard
end Rows
end Go.Proofs.YtmagfjlpjjmknaaDoor
