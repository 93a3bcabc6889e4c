/-
  DERIVED. GIVEN WITH THE SEED: THE CARDS: each row of YteldenbmplcdoaaDoorRows.lean that lists a variable, with what it lists TIED to the program's text (the seventh form; the later family's looks); each row that meets fmt, with fmt's text TOLD by the authors' own Lean function (tested against real Go, not proved from fmt's source: count such statements apart). THE CARD IS WHAT COUNTS. Prove the row's statement (the work); the ties are given (YteldenbmplcdoaaDoorTie.lean); close each card by the builder's one call (the guide's Derived/Test/ToyasCard.lean, 'card_holds'). Laid BY PROGRAM, IN A SANDBOX (cutbox-door.mjs). By AI agents, Wed Nov 11 2026. No macro, syntax, notation, axiom, sorry.
-/
import Derived.Test.YteldenbmplcdoaaDoorRows
import GoSem.ClaimSeven
namespace Go.Proofs.YteldenbmplcdoaaDoor
namespace Rows

/-- THE TIED CARD OF 'potsherdlaw02.LexNumbers'. -/
def lexNumbersCard : Claim7 := { stood := { row := lexNumbersRow, standIns := [], harness := (true, "a59dcce48b9dc93234b401354f0a110a90271ad1ae11afbdbb7e42e4c1fbab07"), looks := true }, kinds := [], alts := [], laidByText := true, laidKinds := [.data, .data, .data, .sentinel, .sentinel], laidTests := true, laidLooks := .later }
def LexNumbersCardSaid : Prop := Claim7.holds Tryd.pinned (.plain (OpenSpec.ofChange lexNumbersSpec)) lexNumbersCard

/-- THE TIED CARD OF 'potsherdlaw02.LexQuotes'. -/
def lexQuotesCard : Claim7 := { stood := { row := lexQuotesRow, standIns := [], harness := (true, "a59dcce48b9dc93234b401354f0a110a90271ad1ae11afbdbb7e42e4c1fbab07"), looks := true }, kinds := [], alts := [], laidByText := true, laidKinds := [.data, .data, .data, .sentinel, .sentinel], laidTests := true, laidLooks := .later }
def LexQuotesCardSaid : Prop := Claim7.holds Tryd.pinned (.plain (OpenSpec.ofChange lexQuotesSpec)) lexQuotesCard

/-- THE TIED CARD OF 'potsherdlaw02.LexBrackets'. -/
def lexBracketsCard : Claim7 := { stood := { row := lexBracketsRow, standIns := [], harness := (true, "a59dcce48b9dc93234b401354f0a110a90271ad1ae11afbdbb7e42e4c1fbab07"), looks := true }, kinds := [], alts := [], laidByText := true, laidKinds := [.data, .data, .data, .sentinel, .sentinel], laidTests := true, laidLooks := .later }
def LexBracketsCardSaid : Prop := Claim7.holds Tryd.pinned (.plain (OpenSpec.ofChange lexBracketsSpec)) lexBracketsCard

/-- THE TIED CARD OF 'potsherdlaw02.LexNotes'. -/
def lexNotesCard : Claim7 := { stood := { row := lexNotesRow, standIns := [], harness := (true, "a59dcce48b9dc93234b401354f0a110a90271ad1ae11afbdbb7e42e4c1fbab07"), looks := true }, kinds := [], alts := [], laidByText := true, laidKinds := [.data, .data, .data, .sentinel, .sentinel], laidTests := true, laidLooks := .later }
def LexNotesCardSaid : Prop := Claim7.holds Tryd.pinned (.plain (OpenSpec.ofChange lexNotesSpec)) lexNotesCard

/-- THE TIED CARD OF 'potsherdlaw02.LexPlaces'. -/
def lexPlacesCard : Claim7 := { stood := { row := lexPlacesRow, standIns := [], harness := (true, "a59dcce48b9dc93234b401354f0a110a90271ad1ae11afbdbb7e42e4c1fbab07"), looks := true }, kinds := [], alts := [], laidByText := true, laidKinds := [.data, .data, .data, .sentinel, .sentinel], laidTests := true, laidLooks := .later }
def LexPlacesCardSaid : Prop := Claim7.holds Tryd.pinned (.plain (OpenSpec.ofChange lexPlacesSpec)) lexPlacesCard

/-- THE TIED CARD OF 'potsherdtop.TopQuotes'. -/
def topQuotesCard : Claim7 := { stood := { row := topQuotesRow, standIns := [], harness := (true, "a59dcce48b9dc93234b401354f0a110a90271ad1ae11afbdbb7e42e4c1fbab07"), looks := true }, kinds := [], alts := [], laidByText := true, laidKinds := [.data, .data, .data, .data, .sentinel, .sentinel, .pinned], laidTests := true, laidLooks := .later }
def TopQuotesCardSaid : Prop := Claim7.holds Tryd.pinned (.plain (OpenSpec.ofChange topQuotesSpec)) topQuotesCard

/-- THE SECOND FORM's CARD OF 'potsherdlaw02.LexNumbers'. -/
def lexNumbersUptoCard : Claim7 := { stood := { row := lexNumbersUptoRow, standIns := [], harness := (true, "a59dcce48b9dc93234b401354f0a110a90271ad1ae11afbdbb7e42e4c1fbab07"), looks := true }, kinds := [], alts := [], laidByText := true, laidKinds := [.data, .data, .data, .sentinel, .sentinel], laidTests := true, laidLooks := .later }
def LexNumbersUptoCardSaid : Prop := Claim7.holds Tryd.pinned (.plain (OpenSpec.upto lexNumbersSpec)) lexNumbersUptoCard

/-- THE SECOND FORM's CARD OF 'potsherdlaw02.LexQuotes'. -/
def lexQuotesUptoCard : Claim7 := { stood := { row := lexQuotesUptoRow, standIns := [], harness := (true, "a59dcce48b9dc93234b401354f0a110a90271ad1ae11afbdbb7e42e4c1fbab07"), looks := true }, kinds := [], alts := [], laidByText := true, laidKinds := [.data, .data, .data, .sentinel, .sentinel], laidTests := true, laidLooks := .later }
def LexQuotesUptoCardSaid : Prop := Claim7.holds Tryd.pinned (.plain (OpenSpec.upto lexQuotesSpec)) lexQuotesUptoCard

/-- THE SECOND FORM's CARD OF 'potsherdlaw02.LexBrackets'. -/
def lexBracketsUptoCard : Claim7 := { stood := { row := lexBracketsUptoRow, standIns := [], harness := (true, "a59dcce48b9dc93234b401354f0a110a90271ad1ae11afbdbb7e42e4c1fbab07"), looks := true }, kinds := [], alts := [], laidByText := true, laidKinds := [.data, .data, .data, .sentinel, .sentinel], laidTests := true, laidLooks := .later }
def LexBracketsUptoCardSaid : Prop := Claim7.holds Tryd.pinned (.plain (OpenSpec.upto lexBracketsSpec)) lexBracketsUptoCard

/-- THE SECOND FORM's CARD OF 'potsherdlaw02.LexNotes'. -/
def lexNotesUptoCard : Claim7 := { stood := { row := lexNotesUptoRow, standIns := [], harness := (true, "a59dcce48b9dc93234b401354f0a110a90271ad1ae11afbdbb7e42e4c1fbab07"), looks := true }, kinds := [], alts := [], laidByText := true, laidKinds := [.data, .data, .data, .sentinel, .sentinel], laidTests := true, laidLooks := .later }
def LexNotesUptoCardSaid : Prop := Claim7.holds Tryd.pinned (.plain (OpenSpec.upto lexNotesSpec)) lexNotesUptoCard

/-- THE SECOND FORM's CARD OF 'potsherdlaw02.LexPlaces'. -/
def lexPlacesUptoCard : Claim7 := { stood := { row := lexPlacesUptoRow, standIns := [], harness := (true, "a59dcce48b9dc93234b401354f0a110a90271ad1ae11afbdbb7e42e4c1fbab07"), looks := true }, kinds := [], alts := [], laidByText := true, laidKinds := [.data, .data, .data, .sentinel, .sentinel], laidTests := true, laidLooks := .later }
def LexPlacesUptoCardSaid : Prop := Claim7.holds Tryd.pinned (.plain (OpenSpec.upto lexPlacesSpec)) lexPlacesUptoCard

/-- THE SECOND FORM's CARD OF 'potsherdtop.TopQuotes'. -/
def topQuotesUptoCard : Claim7 := { stood := { row := topQuotesUptoRow, standIns := [], harness := (true, "a59dcce48b9dc93234b401354f0a110a90271ad1ae11afbdbb7e42e4c1fbab07"), looks := true }, kinds := [], alts := [], laidByText := true, laidKinds := [.data, .data, .data, .data, .sentinel, .sentinel, .pinned], laidTests := true, laidLooks := .later }
def TopQuotesUptoCardSaid : Prop := Claim7.holds Tryd.pinned (.plain (OpenSpec.upto topQuotesSpec)) topQuotesUptoCard
end Rows
end Go.Proofs.YteldenbmplcdoaaDoor
