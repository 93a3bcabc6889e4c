/-
  NARROWER THAN 'FOR EVERY INPUT', by the rows' own cells (each row's printed sentence says how): RpcWindows: laid · RpcLast: laid · RpcTill: laid · RpcForgets: laid · RpcTwice: laid · RpcRefused: laid.
  DERIVED. THE GIVEN ROWS OF THIS SEAT. 6 by the template 'for every input the law returns true; each argument reads behind the call as it read before'; 0 by the template 'total and deterministic' (their statements: YtajomnfeicfdlaaGreatDoorTotals.lean).
  GIVEN WITH THE SEED: the statements are not yours to turn. If you find one false, say at which input.
  Laid BY PROGRAM, IN A SANDBOX (cutbox-rows.mjs): the forced cells as the released guide's own fill.sh prints them over the translation a4d694b93ae62602… (all of the seat's roots in one cut). By AI agents, Wed Nov 11 2026. No macro, syntax, notation, axiom, sorry.
-/
import Derived.Test.YtajomnfeicfdlaaGreatDoorChecked
import GoSem.PinnedTables
import GoSem.Claim
import GoSem.ClaimJoined
import GoSem.ClaimMapViews
import Derived.JoinedTies
import Derived.KernelRfl
namespace Go.Proofs.YtajomnfeicfdlaaGreatDoor
/- THE CELL 'sum', in the pinned program and in every row, IS THE sha256 OF THE DUMP (.gsa) THAT YtajomnfeicfdlaaGreatDoorProg.lean LOADS. Nothing in Lean hashes anything: it is a label: what it is worth is what the hold of that sum in a sandbox is worth. -/
noncomputable def Tryz.pinned : Pinned := { name := "ytajomnfeicfdlaagreatdoor", sum := "a4d694b93ae62602b2c4173404c4565b92c9312e8afe4b01597ded409d0d536d", checked := Tryz.checked }
namespace Rows
def none {H : Type} : Left H := { results := [], args := [] }

/- WHAT THE LISTED PACKAGE-LEVEL VARIABLES READ AS WHEN THE CALL BEGINS. Each datum BY PROGRAM (the guide's laid-datum.mjs) off the statement by which the dump's own 'gosem.cut.vars' lays the variable. In a bare row this is a premise. The card (YtajomnfeicfdlaaGreatDoorCards.lean) ties it to the program's text. -/
def laid_unicode_utf8_acceptRanges {H : Type} : DataW H := .agg [.agg [.lit (.int .u8 128), .lit (.int .u8 191)], .agg [.lit (.int .u8 160), .lit (.int .u8 191)], .agg [.lit (.int .u8 128), .lit (.int .u8 159)], .agg [.lit (.int .u8 144), .lit (.int .u8 191)], .agg [.lit (.int .u8 128), .lit (.int .u8 143)], .agg [.lit (.int .u8 0), .lit (.int .u8 0)], .agg [.lit (.int .u8 0), .lit (.int .u8 0)], .agg [.lit (.int .u8 0), .lit (.int .u8 0)], .agg [.lit (.int .u8 0), .lit (.int .u8 0)], .agg [.lit (.int .u8 0), .lit (.int .u8 0)], .agg [.lit (.int .u8 0), .lit (.int .u8 0)], .agg [.lit (.int .u8 0), .lit (.int .u8 0)], .agg [.lit (.int .u8 0), .lit (.int .u8 0)], .agg [.lit (.int .u8 0), .lit (.int .u8 0)], .agg [.lit (.int .u8 0), .lit (.int .u8 0)], .agg [.lit (.int .u8 0), .lit (.int .u8 0)]]
/-- One of Go's own tables, pinned by name: the form's constant. -/
def laid_unicode_utf8_first : DataW Unit := Go.Pinned.utf8First

/-- 'potsherdlaw12.RpcWindows': WHATEVER THE INPUT: true; the input reads as it did. -/
def rpcWindowsSpec : ChangeSpec := { name := "rpcWindows", fn := fun _ => fun
  | [d1, d2] => { results := [.lit (.bool true)], args := [d1, d2] }
  | _ => none }
def rpcWindowsRow : OpenClaim := { program := "ytajomnfeicfdlaagreatdoor", sum := "a4d694b93ae62602b2c4173404c4565b92c9312e8afe4b01597ded409d0d536d", func := "potsherd/potsherdlaw12.RpcWindows", spec := "rpcWindows", unfollowed := true, recurses := true, named := ["unicode/utf8.first", "unicode/utf8.acceptRanges"], apart := false, laid := [("unicode/utf8.acceptRanges", laid_unicode_utf8_acceptRanges), ("unicode/utf8.first", laid_unicode_utf8_first)] }
def RpcWindowsSaid : Prop := rpcWindowsRow.holds Tryz.pinned (OpenSpec.ofChange rpcWindowsSpec)

/-- ITS FALSE NEIGHBOUR: 'it returns false'. Refute it at one input. -/
def rpcWindowsWrong : ChangeSpec := { name := "rpcWindows", fn := fun _ => fun
  | [d1, d2] => { results := [.lit (.bool false)], args := [d1, d2] }
  | _ => none }
def RpcWindowsWrongFalsely : Prop := rpcWindowsRow.holds Tryz.pinned (OpenSpec.ofChange rpcWindowsWrong)

/-- 'potsherdlaw12.RpcLast': WHATEVER THE INPUT: true; the input reads as it did. -/
def rpcLastSpec : ChangeSpec := { name := "rpcLast", fn := fun _ => fun
  | [d] => { results := [.lit (.bool true)], args := [d] }
  | _ => none }
def rpcLastRow : OpenClaim := { program := "ytajomnfeicfdlaagreatdoor", sum := "a4d694b93ae62602b2c4173404c4565b92c9312e8afe4b01597ded409d0d536d", func := "potsherd/potsherdlaw12.RpcLast", spec := "rpcLast", unfollowed := true, recurses := true, named := ["unicode/utf8.first", "unicode/utf8.acceptRanges"], apart := false, laid := [("unicode/utf8.acceptRanges", laid_unicode_utf8_acceptRanges), ("unicode/utf8.first", laid_unicode_utf8_first)] }
def RpcLastSaid : Prop := rpcLastRow.holds Tryz.pinned (OpenSpec.ofChange rpcLastSpec)

/-- ITS FALSE NEIGHBOUR: 'it returns false'. Refute it at one input. -/
def rpcLastWrong : ChangeSpec := { name := "rpcLast", fn := fun _ => fun
  | [d] => { results := [.lit (.bool false)], args := [d] }
  | _ => none }
def RpcLastWrongFalsely : Prop := rpcLastRow.holds Tryz.pinned (OpenSpec.ofChange rpcLastWrong)

/-- 'potsherdlaw12.RpcTill': WHATEVER THE INPUT: true; the input reads as it did. -/
def rpcTillSpec : ChangeSpec := { name := "rpcTill", fn := fun _ => fun
  | [d1, d2, d3, d4] => { results := [.lit (.bool true)], args := [d1, d2, d3, d4] }
  | _ => none }
def rpcTillRow : OpenClaim := { program := "ytajomnfeicfdlaagreatdoor", sum := "a4d694b93ae62602b2c4173404c4565b92c9312e8afe4b01597ded409d0d536d", func := "potsherd/potsherdlaw12.RpcTill", spec := "rpcTill", unfollowed := true, recurses := true, named := ["unicode/utf8.first", "unicode/utf8.acceptRanges"], apart := false, laid := [("unicode/utf8.acceptRanges", laid_unicode_utf8_acceptRanges), ("unicode/utf8.first", laid_unicode_utf8_first)] }
def RpcTillSaid : Prop := rpcTillRow.holds Tryz.pinned (OpenSpec.ofChange rpcTillSpec)

/-- ITS FALSE NEIGHBOUR: 'it returns false'. Refute it at one input. -/
def rpcTillWrong : ChangeSpec := { name := "rpcTill", fn := fun _ => fun
  | [d1, d2, d3, d4] => { results := [.lit (.bool false)], args := [d1, d2, d3, d4] }
  | _ => none }
def RpcTillWrongFalsely : Prop := rpcTillRow.holds Tryz.pinned (OpenSpec.ofChange rpcTillWrong)

/-- 'potsherdlaw12.RpcForgets': WHATEVER THE INPUT: true; the input reads as it did. -/
def rpcForgetsSpec : ChangeSpec := { name := "rpcForgets", fn := fun _ => fun
  | [d1, d2] => { results := [.lit (.bool true)], args := [d1, d2] }
  | _ => none }
def rpcForgetsRow : OpenClaim := { program := "ytajomnfeicfdlaagreatdoor", sum := "a4d694b93ae62602b2c4173404c4565b92c9312e8afe4b01597ded409d0d536d", func := "potsherd/potsherdlaw12.RpcForgets", spec := "rpcForgets", unfollowed := true, recurses := true, named := ["unicode/utf8.first", "unicode/utf8.acceptRanges"], apart := false, laid := [("unicode/utf8.acceptRanges", laid_unicode_utf8_acceptRanges), ("unicode/utf8.first", laid_unicode_utf8_first)] }
def RpcForgetsSaid : Prop := rpcForgetsRow.holds Tryz.pinned (OpenSpec.ofChange rpcForgetsSpec)

/-- ITS FALSE NEIGHBOUR: 'it returns false'. Refute it at one input. -/
def rpcForgetsWrong : ChangeSpec := { name := "rpcForgets", fn := fun _ => fun
  | [d1, d2] => { results := [.lit (.bool false)], args := [d1, d2] }
  | _ => none }
def RpcForgetsWrongFalsely : Prop := rpcForgetsRow.holds Tryz.pinned (OpenSpec.ofChange rpcForgetsWrong)

/-- 'potsherdlaw12.RpcTwice': WHATEVER THE INPUT: true; the input reads as it did. -/
def rpcTwiceSpec : ChangeSpec := { name := "rpcTwice", fn := fun _ => fun
  | [d1, d2, d3] => { results := [.lit (.bool true)], args := [d1, d2, d3] }
  | _ => none }
def rpcTwiceRow : OpenClaim := { program := "ytajomnfeicfdlaagreatdoor", sum := "a4d694b93ae62602b2c4173404c4565b92c9312e8afe4b01597ded409d0d536d", func := "potsherd/potsherdlaw12.RpcTwice", spec := "rpcTwice", unfollowed := true, recurses := true, named := ["unicode/utf8.first", "unicode/utf8.acceptRanges"], apart := false, laid := [("unicode/utf8.acceptRanges", laid_unicode_utf8_acceptRanges), ("unicode/utf8.first", laid_unicode_utf8_first)] }
def RpcTwiceSaid : Prop := rpcTwiceRow.holds Tryz.pinned (OpenSpec.ofChange rpcTwiceSpec)

/-- ITS FALSE NEIGHBOUR: 'it returns false'. Refute it at one input. -/
def rpcTwiceWrong : ChangeSpec := { name := "rpcTwice", fn := fun _ => fun
  | [d1, d2, d3] => { results := [.lit (.bool false)], args := [d1, d2, d3] }
  | _ => none }
def RpcTwiceWrongFalsely : Prop := rpcTwiceRow.holds Tryz.pinned (OpenSpec.ofChange rpcTwiceWrong)

/-- 'potsherdlaw12.RpcRefused': WHATEVER THE INPUT: true; the input reads as it did. -/
def rpcRefusedSpec : ChangeSpec := { name := "rpcRefused", fn := fun _ => fun
  | [d1, d2, d3] => { results := [.lit (.bool true)], args := [d1, d2, d3] }
  | _ => none }
def rpcRefusedRow : OpenClaim := { program := "ytajomnfeicfdlaagreatdoor", sum := "a4d694b93ae62602b2c4173404c4565b92c9312e8afe4b01597ded409d0d536d", func := "potsherd/potsherdlaw12.RpcRefused", spec := "rpcRefused", unfollowed := true, recurses := true, named := ["unicode/utf8.first", "unicode/utf8.acceptRanges"], apart := false, laid := [("unicode/utf8.acceptRanges", laid_unicode_utf8_acceptRanges), ("unicode/utf8.first", laid_unicode_utf8_first)] }
def RpcRefusedSaid : Prop := rpcRefusedRow.holds Tryz.pinned (OpenSpec.ofChange rpcRefusedSpec)

/-- ITS FALSE NEIGHBOUR: 'it returns false'. Refute it at one input. -/
def rpcRefusedWrong : ChangeSpec := { name := "rpcRefused", fn := fun _ => fun
  | [d1, d2, d3] => { results := [.lit (.bool false)], args := [d1, d2, d3] }
  | _ => none }
def RpcRefusedWrongFalsely : Prop := rpcRefusedRow.holds Tryz.pinned (OpenSpec.ofChange rpcRefusedWrong)

/- THE SECOND FORM. 'bulk': how many values and letters a reading holds, each counted each time it is reached (what is shared counts as often as it is met; a slice's spare places count too). A statement '..UptoSaid' is the law's where the arguments, and the package variables that the reading takes, are together of bulk at most 1048576: NARROWER than '..Said'. Prove '..Said' where nothing that the law and all that it calls make is longer than what came in: it says more and counts as full. Else prove '..UptoSaid'. A law counts once. -/
mutual
def uptoBulk {H : Type} : DataW H → Nat
  | .lit (.string bytes) => bytes.length + 1
  | .lit _ => 1
  | .nil => 1
  | .ptr d => uptoBulk d + 1
  | .slice elems spare => uptoBulkAll elems + uptoBulkAll spare + 1
  | .agg parts => uptoBulkAll parts + 1
  | .iface _ d => uptoBulk d + 1
  | .map entries => uptoBulkEntries entries + 1
  | .held _ => 1
def uptoBulkAll {H : Type} : List (DataW H) → Nat
  | [] => 0
  | d :: r => uptoBulk d + uptoBulkAll r
def uptoBulkEntries {H : Type} : List (Lit × DataW H) → Nat
  | [] => 0
  | x :: r => uptoBulkEntry x + uptoBulkEntries r
def uptoBulkEntry {H : Type} : Lit × DataW H → Nat
  | (.string bytes, d) => bytes.length + uptoBulk d + 1
  | (_, d) => uptoBulk d + 1
 end
def uptoSmall : (H : Type) → List (DataW H) → Bool := fun _ ds => decide (uptoBulkAll ds ≤ 1048576)
def OpenSpec.upto (s : _root_.Go.ChangeSpec) : _root_.Go.OpenSpec := { _root_.Go.OpenSpec.ofChange s with cond := some uptoSmall }

/-- 'potsherdlaw12.RpcWindows', WHERE WHAT IT READS IS OF BULK AT MOST 1048576: true; the input reads as it did. -/
def rpcWindowsUptoRow : OpenClaim := { program := "ytajomnfeicfdlaagreatdoor", sum := "a4d694b93ae62602b2c4173404c4565b92c9312e8afe4b01597ded409d0d536d", func := "potsherd/potsherdlaw12.RpcWindows", spec := "rpcWindows", unfollowed := true, recurses := true, named := ["unicode/utf8.first", "unicode/utf8.acceptRanges"], apart := false, laid := [("unicode/utf8.acceptRanges", laid_unicode_utf8_acceptRanges), ("unicode/utf8.first", laid_unicode_utf8_first)], narrowed := true }
def RpcWindowsUptoSaid : Prop := rpcWindowsUptoRow.holds Tryz.pinned (OpenSpec.upto rpcWindowsSpec)

/-- 'potsherdlaw12.RpcLast', WHERE WHAT IT READS IS OF BULK AT MOST 1048576: true; the input reads as it did. -/
def rpcLastUptoRow : OpenClaim := { program := "ytajomnfeicfdlaagreatdoor", sum := "a4d694b93ae62602b2c4173404c4565b92c9312e8afe4b01597ded409d0d536d", func := "potsherd/potsherdlaw12.RpcLast", spec := "rpcLast", unfollowed := true, recurses := true, named := ["unicode/utf8.first", "unicode/utf8.acceptRanges"], apart := false, laid := [("unicode/utf8.acceptRanges", laid_unicode_utf8_acceptRanges), ("unicode/utf8.first", laid_unicode_utf8_first)], narrowed := true }
def RpcLastUptoSaid : Prop := rpcLastUptoRow.holds Tryz.pinned (OpenSpec.upto rpcLastSpec)

/-- 'potsherdlaw12.RpcTill', WHERE WHAT IT READS IS OF BULK AT MOST 1048576: true; the input reads as it did. -/
def rpcTillUptoRow : OpenClaim := { program := "ytajomnfeicfdlaagreatdoor", sum := "a4d694b93ae62602b2c4173404c4565b92c9312e8afe4b01597ded409d0d536d", func := "potsherd/potsherdlaw12.RpcTill", spec := "rpcTill", unfollowed := true, recurses := true, named := ["unicode/utf8.first", "unicode/utf8.acceptRanges"], apart := false, laid := [("unicode/utf8.acceptRanges", laid_unicode_utf8_acceptRanges), ("unicode/utf8.first", laid_unicode_utf8_first)], narrowed := true }
def RpcTillUptoSaid : Prop := rpcTillUptoRow.holds Tryz.pinned (OpenSpec.upto rpcTillSpec)

/-- 'potsherdlaw12.RpcForgets', WHERE WHAT IT READS IS OF BULK AT MOST 1048576: true; the input reads as it did. -/
def rpcForgetsUptoRow : OpenClaim := { program := "ytajomnfeicfdlaagreatdoor", sum := "a4d694b93ae62602b2c4173404c4565b92c9312e8afe4b01597ded409d0d536d", func := "potsherd/potsherdlaw12.RpcForgets", spec := "rpcForgets", unfollowed := true, recurses := true, named := ["unicode/utf8.first", "unicode/utf8.acceptRanges"], apart := false, laid := [("unicode/utf8.acceptRanges", laid_unicode_utf8_acceptRanges), ("unicode/utf8.first", laid_unicode_utf8_first)], narrowed := true }
def RpcForgetsUptoSaid : Prop := rpcForgetsUptoRow.holds Tryz.pinned (OpenSpec.upto rpcForgetsSpec)

/-- 'potsherdlaw12.RpcTwice', WHERE WHAT IT READS IS OF BULK AT MOST 1048576: true; the input reads as it did. -/
def rpcTwiceUptoRow : OpenClaim := { program := "ytajomnfeicfdlaagreatdoor", sum := "a4d694b93ae62602b2c4173404c4565b92c9312e8afe4b01597ded409d0d536d", func := "potsherd/potsherdlaw12.RpcTwice", spec := "rpcTwice", unfollowed := true, recurses := true, named := ["unicode/utf8.first", "unicode/utf8.acceptRanges"], apart := false, laid := [("unicode/utf8.acceptRanges", laid_unicode_utf8_acceptRanges), ("unicode/utf8.first", laid_unicode_utf8_first)], narrowed := true }
def RpcTwiceUptoSaid : Prop := rpcTwiceUptoRow.holds Tryz.pinned (OpenSpec.upto rpcTwiceSpec)

/-- 'potsherdlaw12.RpcRefused', WHERE WHAT IT READS IS OF BULK AT MOST 1048576: true; the input reads as it did. -/
def rpcRefusedUptoRow : OpenClaim := { program := "ytajomnfeicfdlaagreatdoor", sum := "a4d694b93ae62602b2c4173404c4565b92c9312e8afe4b01597ded409d0d536d", func := "potsherd/potsherdlaw12.RpcRefused", spec := "rpcRefused", unfollowed := true, recurses := true, named := ["unicode/utf8.first", "unicode/utf8.acceptRanges"], apart := false, laid := [("unicode/utf8.acceptRanges", laid_unicode_utf8_acceptRanges), ("unicode/utf8.first", laid_unicode_utf8_first)], narrowed := true }
def RpcRefusedUptoSaid : Prop := rpcRefusedUptoRow.holds Tryz.pinned (OpenSpec.upto rpcRefusedSpec)

end Rows
end Go.Proofs.YtajomnfeicfdlaaGreatDoor
