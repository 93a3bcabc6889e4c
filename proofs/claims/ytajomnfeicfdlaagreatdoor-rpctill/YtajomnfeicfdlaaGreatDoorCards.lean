/-
  DERIVED. GIVEN WITH THE SEED: THE CARDS: each row of YtajomnfeicfdlaaGreatDoorRows.lean that lists a variable, with what it lists TIED to the program's text (the seventh form; the later family's looks); each row that meets fmt, with fmt's text TOLD by the authors' own Lean function (tested against real Go, not proved from fmt's source: count such statements apart). THE CARD IS WHAT COUNTS. Prove the row's statement (the work); the ties are given (YtajomnfeicfdlaaGreatDoorTie.lean); close each card by the builder's one call (the guide's Derived/Test/ToyasCard.lean, 'card_holds'). Laid BY PROGRAM, IN A SANDBOX (cutbox-door.mjs). By AI agents, Wed Nov 11 2026. No macro, syntax, notation, axiom, sorry.
-/
import Derived.Test.YtajomnfeicfdlaaGreatDoorRows
import GoSem.ClaimSeven
namespace Go.Proofs.YtajomnfeicfdlaaGreatDoor
namespace Rows

/-- THE TIED CARD OF 'potsherdlaw12.RpcWindows'. -/
def rpcWindowsCard : Claim7 := { stood := { row := rpcWindowsRow, standIns := [], harness := (true, "6b6ab388c0a2ce7d3bd98f32de4f3be5c5e1d5e77e392e31e7b903bbf59d8935"), looks := true }, kinds := [], alts := [], laidByText := true, laidKinds := [.data, .pinned], laidTests := true, laidLooks := .later }
def RpcWindowsCardSaid : Prop := Claim7.holds Tryz.pinned (.plain (OpenSpec.ofChange rpcWindowsSpec)) rpcWindowsCard

/-- THE TIED CARD OF 'potsherdlaw12.RpcLast'. -/
def rpcLastCard : Claim7 := { stood := { row := rpcLastRow, standIns := [], harness := (true, "6b6ab388c0a2ce7d3bd98f32de4f3be5c5e1d5e77e392e31e7b903bbf59d8935"), looks := true }, kinds := [], alts := [], laidByText := true, laidKinds := [.data, .pinned], laidTests := true, laidLooks := .later }
def RpcLastCardSaid : Prop := Claim7.holds Tryz.pinned (.plain (OpenSpec.ofChange rpcLastSpec)) rpcLastCard

/-- THE TIED CARD OF 'potsherdlaw12.RpcTill'. -/
def rpcTillCard : Claim7 := { stood := { row := rpcTillRow, standIns := [], harness := (true, "6b6ab388c0a2ce7d3bd98f32de4f3be5c5e1d5e77e392e31e7b903bbf59d8935"), looks := true }, kinds := [], alts := [], laidByText := true, laidKinds := [.data, .pinned], laidTests := true, laidLooks := .later }
def RpcTillCardSaid : Prop := Claim7.holds Tryz.pinned (.plain (OpenSpec.ofChange rpcTillSpec)) rpcTillCard

/-- THE TIED CARD OF 'potsherdlaw12.RpcForgets'. -/
def rpcForgetsCard : Claim7 := { stood := { row := rpcForgetsRow, standIns := [], harness := (true, "6b6ab388c0a2ce7d3bd98f32de4f3be5c5e1d5e77e392e31e7b903bbf59d8935"), looks := true }, kinds := [], alts := [], laidByText := true, laidKinds := [.data, .pinned], laidTests := true, laidLooks := .later }
def RpcForgetsCardSaid : Prop := Claim7.holds Tryz.pinned (.plain (OpenSpec.ofChange rpcForgetsSpec)) rpcForgetsCard

/-- THE TIED CARD OF 'potsherdlaw12.RpcTwice'. -/
def rpcTwiceCard : Claim7 := { stood := { row := rpcTwiceRow, standIns := [], harness := (true, "6b6ab388c0a2ce7d3bd98f32de4f3be5c5e1d5e77e392e31e7b903bbf59d8935"), looks := true }, kinds := [], alts := [], laidByText := true, laidKinds := [.data, .pinned], laidTests := true, laidLooks := .later }
def RpcTwiceCardSaid : Prop := Claim7.holds Tryz.pinned (.plain (OpenSpec.ofChange rpcTwiceSpec)) rpcTwiceCard

/-- THE TIED CARD OF 'potsherdlaw12.RpcRefused'. -/
def rpcRefusedCard : Claim7 := { stood := { row := rpcRefusedRow, standIns := [], harness := (true, "6b6ab388c0a2ce7d3bd98f32de4f3be5c5e1d5e77e392e31e7b903bbf59d8935"), looks := true }, kinds := [], alts := [], laidByText := true, laidKinds := [.data, .pinned], laidTests := true, laidLooks := .later }
def RpcRefusedCardSaid : Prop := Claim7.holds Tryz.pinned (.plain (OpenSpec.ofChange rpcRefusedSpec)) rpcRefusedCard

/-- THE SECOND FORM's CARD OF 'potsherdlaw12.RpcWindows'. -/
def rpcWindowsUptoCard : Claim7 := { stood := { row := rpcWindowsUptoRow, standIns := [], harness := (true, "6b6ab388c0a2ce7d3bd98f32de4f3be5c5e1d5e77e392e31e7b903bbf59d8935"), looks := true }, kinds := [], alts := [], laidByText := true, laidKinds := [.data, .pinned], laidTests := true, laidLooks := .later }
def RpcWindowsUptoCardSaid : Prop := Claim7.holds Tryz.pinned (.plain (OpenSpec.upto rpcWindowsSpec)) rpcWindowsUptoCard

/-- THE SECOND FORM's CARD OF 'potsherdlaw12.RpcLast'. -/
def rpcLastUptoCard : Claim7 := { stood := { row := rpcLastUptoRow, standIns := [], harness := (true, "6b6ab388c0a2ce7d3bd98f32de4f3be5c5e1d5e77e392e31e7b903bbf59d8935"), looks := true }, kinds := [], alts := [], laidByText := true, laidKinds := [.data, .pinned], laidTests := true, laidLooks := .later }
def RpcLastUptoCardSaid : Prop := Claim7.holds Tryz.pinned (.plain (OpenSpec.upto rpcLastSpec)) rpcLastUptoCard

/-- THE SECOND FORM's CARD OF 'potsherdlaw12.RpcTill'. -/
def rpcTillUptoCard : Claim7 := { stood := { row := rpcTillUptoRow, standIns := [], harness := (true, "6b6ab388c0a2ce7d3bd98f32de4f3be5c5e1d5e77e392e31e7b903bbf59d8935"), looks := true }, kinds := [], alts := [], laidByText := true, laidKinds := [.data, .pinned], laidTests := true, laidLooks := .later }
def RpcTillUptoCardSaid : Prop := Claim7.holds Tryz.pinned (.plain (OpenSpec.upto rpcTillSpec)) rpcTillUptoCard

/-- THE SECOND FORM's CARD OF 'potsherdlaw12.RpcForgets'. -/
def rpcForgetsUptoCard : Claim7 := { stood := { row := rpcForgetsUptoRow, standIns := [], harness := (true, "6b6ab388c0a2ce7d3bd98f32de4f3be5c5e1d5e77e392e31e7b903bbf59d8935"), looks := true }, kinds := [], alts := [], laidByText := true, laidKinds := [.data, .pinned], laidTests := true, laidLooks := .later }
def RpcForgetsUptoCardSaid : Prop := Claim7.holds Tryz.pinned (.plain (OpenSpec.upto rpcForgetsSpec)) rpcForgetsUptoCard

/-- THE SECOND FORM's CARD OF 'potsherdlaw12.RpcTwice'. -/
def rpcTwiceUptoCard : Claim7 := { stood := { row := rpcTwiceUptoRow, standIns := [], harness := (true, "6b6ab388c0a2ce7d3bd98f32de4f3be5c5e1d5e77e392e31e7b903bbf59d8935"), looks := true }, kinds := [], alts := [], laidByText := true, laidKinds := [.data, .pinned], laidTests := true, laidLooks := .later }
def RpcTwiceUptoCardSaid : Prop := Claim7.holds Tryz.pinned (.plain (OpenSpec.upto rpcTwiceSpec)) rpcTwiceUptoCard

/-- THE SECOND FORM's CARD OF 'potsherdlaw12.RpcRefused'. -/
def rpcRefusedUptoCard : Claim7 := { stood := { row := rpcRefusedUptoRow, standIns := [], harness := (true, "6b6ab388c0a2ce7d3bd98f32de4f3be5c5e1d5e77e392e31e7b903bbf59d8935"), looks := true }, kinds := [], alts := [], laidByText := true, laidKinds := [.data, .pinned], laidTests := true, laidLooks := .later }
def RpcRefusedUptoCardSaid : Prop := Claim7.holds Tryz.pinned (.plain (OpenSpec.upto rpcRefusedSpec)) rpcRefusedUptoCard
end Rows
end Go.Proofs.YtajomnfeicfdlaaGreatDoor
