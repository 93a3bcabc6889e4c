/-
  NARROWER THAN 'FOR EVERY INPUT', by the rows' own cells (each row's printed sentence says how): BindKinds: laid · BindNames: laid · BindAll: laid · BindRows: laid · BindTypes: laid · BindDoes: laid.
  DERIVED. THE GIVEN ROWS OF THIS SEAT. 6 by the template 'for every input the law returns true; each argument reads behind the call as it read before'; 0 by the template 'total and deterministic' (their statements: YtfifphfihdhlaaaGreatDoorTotals.lean).
  GIVEN WITH THE SEED: the statements are not yours to turn. If you find one false, say at which input.
  Laid BY PROGRAM, IN A SANDBOX (cutbox-rows.mjs): the forced cells as the released guide's own fill.sh prints them over the translation d151b778c9bbe5bd… (all of the seat's roots in one cut). By AI agents, Wed Nov 11 2026. No macro, syntax, notation, axiom, sorry.
-/
import Derived.Test.YtfifphfihdhlaaaGreatDoorChecked
import GoSem.PinnedTables
import GoSem.Claim
import GoSem.ClaimJoined
import GoSem.ClaimMapViews
import Derived.JoinedTies
import Derived.KernelRfl
namespace Go.Proofs.YtfifphfihdhlaaaGreatDoor
/- THE CELL 'sum', in the pinned program and in every row, IS THE sha256 OF THE DUMP (.gsa) THAT YtfifphfihdhlaaaGreatDoorProg.lean LOADS. Nothing in Lean hashes anything: it is a label: what it is worth is what the hold of that sum in a sandbox is worth. -/
noncomputable def Tryz.pinned : Pinned := { name := "ytfifphfihdhlaaagreatdoor", sum := "d151b778c9bbe5bd6711ea96541df99cb8583e973377b90ba16cdaa3684a350b", checked := Tryz.checked }
namespace Rows
def none {H : Type} : Left H := { results := [], args := [] }

/- WHAT THE LISTED PACKAGE-LEVEL VARIABLES READ AS WHEN THE CALL BEGINS. Each datum BY PROGRAM (the guide's laid-datum.mjs) off the statement by which the dump's own 'gosem.cut.vars' lays the variable. In a bare row this is a premise. The card (YtfifphfihdhlaaaGreatDoorCards.lean) ties it to the program's text. -/
def laid_math_bits_deBruijn32tab {H : Type} : DataW H := .agg [.lit (.int .u8 0), .lit (.int .u8 1), .lit (.int .u8 28), .lit (.int .u8 2), .lit (.int .u8 29), .lit (.int .u8 14), .lit (.int .u8 24), .lit (.int .u8 3), .lit (.int .u8 30), .lit (.int .u8 22), .lit (.int .u8 20), .lit (.int .u8 15), .lit (.int .u8 25), .lit (.int .u8 17), .lit (.int .u8 4), .lit (.int .u8 8), .lit (.int .u8 31), .lit (.int .u8 27), .lit (.int .u8 13), .lit (.int .u8 23), .lit (.int .u8 21), .lit (.int .u8 19), .lit (.int .u8 16), .lit (.int .u8 7), .lit (.int .u8 26), .lit (.int .u8 12), .lit (.int .u8 18), .lit (.int .u8 6), .lit (.int .u8 11), .lit (.int .u8 5), .lit (.int .u8 10), .lit (.int .u8 9)]
def laid_math_bits_deBruijn64tab {H : Type} : DataW H := .agg [.lit (.int .u8 0), .lit (.int .u8 1), .lit (.int .u8 56), .lit (.int .u8 2), .lit (.int .u8 57), .lit (.int .u8 49), .lit (.int .u8 28), .lit (.int .u8 3), .lit (.int .u8 61), .lit (.int .u8 58), .lit (.int .u8 42), .lit (.int .u8 50), .lit (.int .u8 38), .lit (.int .u8 29), .lit (.int .u8 17), .lit (.int .u8 4), .lit (.int .u8 62), .lit (.int .u8 47), .lit (.int .u8 59), .lit (.int .u8 36), .lit (.int .u8 45), .lit (.int .u8 43), .lit (.int .u8 51), .lit (.int .u8 22), .lit (.int .u8 53), .lit (.int .u8 39), .lit (.int .u8 33), .lit (.int .u8 30), .lit (.int .u8 24), .lit (.int .u8 18), .lit (.int .u8 12), .lit (.int .u8 5), .lit (.int .u8 63), .lit (.int .u8 55), .lit (.int .u8 48), .lit (.int .u8 27), .lit (.int .u8 60), .lit (.int .u8 41), .lit (.int .u8 37), .lit (.int .u8 16), .lit (.int .u8 46), .lit (.int .u8 35), .lit (.int .u8 44), .lit (.int .u8 21), .lit (.int .u8 52), .lit (.int .u8 32), .lit (.int .u8 23), .lit (.int .u8 11), .lit (.int .u8 54), .lit (.int .u8 26), .lit (.int .u8 40), .lit (.int .u8 15), .lit (.int .u8 34), .lit (.int .u8 20), .lit (.int .u8 31), .lit (.int .u8 10), .lit (.int .u8 25), .lit (.int .u8 14), .lit (.int .u8 19), .lit (.int .u8 9), .lit (.int .u8 13), .lit (.int .u8 8), .lit (.int .u8 7), .lit (.int .u8 6)]
def laid_internal_strconv_uint64pow10 {H : Type} : DataW H := .agg [.lit (.int .u64 1), .lit (.int .u64 10), .lit (.int .u64 100), .lit (.int .u64 1000), .lit (.int .u64 10000), .lit (.int .u64 100000), .lit (.int .u64 1000000), .lit (.int .u64 10000000), .lit (.int .u64 100000000), .lit (.int .u64 1000000000), .lit (.int .u64 10000000000), .lit (.int .u64 100000000000), .lit (.int .u64 1000000000000), .lit (.int .u64 10000000000000), .lit (.int .u64 100000000000000), .lit (.int .u64 1000000000000000), .lit (.int .u64 10000000000000000), .lit (.int .u64 100000000000000000), .lit (.int .u64 1000000000000000000), .lit (.int .u64 10000000000000000000)]
def laid_unicode_utf8_acceptRanges {H : Type} : DataW H := .agg [.agg [.lit (.int .u8 128), .lit (.int .u8 191)], .agg [.lit (.int .u8 160), .lit (.int .u8 191)], .agg [.lit (.int .u8 128), .lit (.int .u8 159)], .agg [.lit (.int .u8 144), .lit (.int .u8 191)], .agg [.lit (.int .u8 128), .lit (.int .u8 143)], .agg [.lit (.int .u8 0), .lit (.int .u8 0)], .agg [.lit (.int .u8 0), .lit (.int .u8 0)], .agg [.lit (.int .u8 0), .lit (.int .u8 0)], .agg [.lit (.int .u8 0), .lit (.int .u8 0)], .agg [.lit (.int .u8 0), .lit (.int .u8 0)], .agg [.lit (.int .u8 0), .lit (.int .u8 0)], .agg [.lit (.int .u8 0), .lit (.int .u8 0)], .agg [.lit (.int .u8 0), .lit (.int .u8 0)], .agg [.lit (.int .u8 0), .lit (.int .u8 0)], .agg [.lit (.int .u8 0), .lit (.int .u8 0)], .agg [.lit (.int .u8 0), .lit (.int .u8 0)]]
def laid_strconv_ErrRange {H : Type} : DataW H := .iface "*errors.errorString" (.ptr (.agg [.lit (.string [118, 97, 108, 117, 101, 32, 111, 117, 116, 32, 111, 102, 32, 114, 97, 110, 103, 101])]))
def laid_strconv_ErrSyntax {H : Type} : DataW H := .iface "*errors.errorString" (.ptr (.agg [.lit (.string [105, 110, 118, 97, 108, 105, 100, 32, 115, 121, 110, 116, 97, 120])]))
def laid_potsherd_parse_words {H : Type} : DataW H := .agg [.agg [.lit (.string [110, 117, 108, 108]), .lit (.int .u8 1)], .agg [.lit (.string [116, 114, 117, 101]), .lit (.int .u8 2)], .agg [.lit (.string [102, 97, 108, 115, 101]), .lit (.int .u8 3)], .agg [.lit (.string [110, 101, 103]), .lit (.int .u8 7)], .agg [.lit (.string [110, 111, 116]), .lit (.int .u8 8)], .agg [.lit (.string [110, 117, 108, 108, 63]), .lit (.int .u8 9)], .agg [.lit (.string [108, 101, 110, 103, 116, 104]), .lit (.int .u8 10)], .agg [.lit (.string [43]), .lit (.int .u8 11)], .agg [.lit (.string [45]), .lit (.int .u8 12)], .agg [.lit (.string [42]), .lit (.int .u8 13)], .agg [.lit (.string [61]), .lit (.int .u8 14)], .agg [.lit (.string [60, 62]), .lit (.int .u8 15)], .agg [.lit (.string [60]), .lit (.int .u8 16)], .agg [.lit (.string [60, 61]), .lit (.int .u8 17)], .agg [.lit (.string [62]), .lit (.int .u8 18)], .agg [.lit (.string [62, 61]), .lit (.int .u8 19)], .agg [.lit (.string [97, 110, 100]), .lit (.int .u8 20)], .agg [.lit (.string [111, 114]), .lit (.int .u8 21)]]
def laid_potsherd_parse_aggregates {H : Type} : DataW H := .agg [.agg [.lit (.string [99, 111, 117, 110, 116]), .lit (.int .u8 1)], .agg [.lit (.string [115, 117, 109]), .lit (.int .u8 2)], .agg [.lit (.string [109, 105, 110]), .lit (.int .u8 3)], .agg [.lit (.string [109, 97, 120]), .lit (.int .u8 4)]]
/-- One of Go's own tables, pinned by name: the form's constant. -/
def laid_unicode_utf8_first : DataW Unit := Go.Pinned.utf8First

/-- 'potsherdlaw04.BindKinds': WHATEVER THE INPUT: true; the input reads as it did. -/
def bindKindsSpec : ChangeSpec := { name := "bindKinds", fn := fun _ => fun
  | [d1, d2] => { results := [.lit (.bool true)], args := [d1, d2] }
  | _ => none }
def bindKindsRow : OpenClaim := { program := "ytfifphfihdhlaaagreatdoor", sum := "d151b778c9bbe5bd6711ea96541df99cb8583e973377b90ba16cdaa3684a350b", func := "potsherd/potsherdlaw04.BindKinds", spec := "bindKinds", inPlace := ["internal/abi.NoEscape", "internal/bytealg.IndexByteString", "internal/bytealg.IndexString"], unfollowed := true, recurses := true, named := ["strconv.ErrSyntax", "strconv.ErrRange", "internal/strconv.uint64pow10", "math/bits.deBruijn32tab", "math/bits.deBruijn64tab", "unicode/utf8.first", "unicode/utf8.acceptRanges", "potsherd/parse.words", "internal/bytealg.MaxLen", "potsherd/parse.aggregates"], apart := false, laid := [("math/bits.deBruijn32tab", laid_math_bits_deBruijn32tab), ("math/bits.deBruijn64tab", laid_math_bits_deBruijn64tab), ("internal/strconv.uint64pow10", laid_internal_strconv_uint64pow10), ("unicode/utf8.acceptRanges", laid_unicode_utf8_acceptRanges), ("strconv.ErrRange", laid_strconv_ErrRange), ("strconv.ErrSyntax", laid_strconv_ErrSyntax), ("potsherd/parse.words", laid_potsherd_parse_words), ("potsherd/parse.aggregates", laid_potsherd_parse_aggregates), ("unicode/utf8.first", laid_unicode_utf8_first)] }
def BindKindsSaid : Prop := bindKindsRow.holds Tryz.pinned (OpenSpec.ofChange bindKindsSpec)

/-- ITS FALSE NEIGHBOUR: 'it returns false'. Refute it at one input. -/
def bindKindsWrong : ChangeSpec := { name := "bindKinds", fn := fun _ => fun
  | [d1, d2] => { results := [.lit (.bool false)], args := [d1, d2] }
  | _ => none }
def BindKindsWrongFalsely : Prop := bindKindsRow.holds Tryz.pinned (OpenSpec.ofChange bindKindsWrong)

/-- 'potsherdlaw04.BindNames': WHATEVER THE INPUT: true; the input reads as it did. -/
def bindNamesSpec : ChangeSpec := { name := "bindNames", fn := fun _ => fun
  | [d1, d2] => { results := [.lit (.bool true)], args := [d1, d2] }
  | _ => none }
def bindNamesRow : OpenClaim := { program := "ytfifphfihdhlaaagreatdoor", sum := "d151b778c9bbe5bd6711ea96541df99cb8583e973377b90ba16cdaa3684a350b", func := "potsherd/potsherdlaw04.BindNames", spec := "bindNames", inPlace := ["internal/abi.NoEscape", "internal/bytealg.IndexByteString", "internal/bytealg.IndexString"], unfollowed := true, recurses := true, named := ["strconv.ErrSyntax", "strconv.ErrRange", "internal/strconv.uint64pow10", "math/bits.deBruijn32tab", "math/bits.deBruijn64tab", "unicode/utf8.first", "unicode/utf8.acceptRanges", "potsherd/parse.words", "internal/bytealg.MaxLen", "potsherd/parse.aggregates"], apart := false, laid := [("math/bits.deBruijn32tab", laid_math_bits_deBruijn32tab), ("math/bits.deBruijn64tab", laid_math_bits_deBruijn64tab), ("internal/strconv.uint64pow10", laid_internal_strconv_uint64pow10), ("unicode/utf8.acceptRanges", laid_unicode_utf8_acceptRanges), ("strconv.ErrRange", laid_strconv_ErrRange), ("strconv.ErrSyntax", laid_strconv_ErrSyntax), ("potsherd/parse.words", laid_potsherd_parse_words), ("potsherd/parse.aggregates", laid_potsherd_parse_aggregates), ("unicode/utf8.first", laid_unicode_utf8_first)] }
def BindNamesSaid : Prop := bindNamesRow.holds Tryz.pinned (OpenSpec.ofChange bindNamesSpec)

/-- ITS FALSE NEIGHBOUR: 'it returns false'. Refute it at one input. -/
def bindNamesWrong : ChangeSpec := { name := "bindNames", fn := fun _ => fun
  | [d1, d2] => { results := [.lit (.bool false)], args := [d1, d2] }
  | _ => none }
def BindNamesWrongFalsely : Prop := bindNamesRow.holds Tryz.pinned (OpenSpec.ofChange bindNamesWrong)

/-- 'potsherdlaw04.BindAll': WHATEVER THE INPUT: true; the input reads as it did. -/
def bindAllSpec : ChangeSpec := { name := "bindAll", fn := fun _ => fun
  | [d1, d2] => { results := [.lit (.bool true)], args := [d1, d2] }
  | _ => none }
def bindAllRow : OpenClaim := { program := "ytfifphfihdhlaaagreatdoor", sum := "d151b778c9bbe5bd6711ea96541df99cb8583e973377b90ba16cdaa3684a350b", func := "potsherd/potsherdlaw04.BindAll", spec := "bindAll", inPlace := ["internal/abi.NoEscape", "internal/bytealg.IndexByteString", "internal/bytealg.IndexString"], unfollowed := true, recurses := true, named := ["strconv.ErrSyntax", "strconv.ErrRange", "internal/strconv.uint64pow10", "math/bits.deBruijn32tab", "math/bits.deBruijn64tab", "unicode/utf8.first", "unicode/utf8.acceptRanges", "potsherd/parse.words", "internal/bytealg.MaxLen", "potsherd/parse.aggregates"], apart := false, laid := [("math/bits.deBruijn32tab", laid_math_bits_deBruijn32tab), ("math/bits.deBruijn64tab", laid_math_bits_deBruijn64tab), ("internal/strconv.uint64pow10", laid_internal_strconv_uint64pow10), ("unicode/utf8.acceptRanges", laid_unicode_utf8_acceptRanges), ("strconv.ErrRange", laid_strconv_ErrRange), ("strconv.ErrSyntax", laid_strconv_ErrSyntax), ("potsherd/parse.words", laid_potsherd_parse_words), ("potsherd/parse.aggregates", laid_potsherd_parse_aggregates), ("unicode/utf8.first", laid_unicode_utf8_first)] }
def BindAllSaid : Prop := bindAllRow.holds Tryz.pinned (OpenSpec.ofChange bindAllSpec)

/-- ITS FALSE NEIGHBOUR: 'it returns false'. Refute it at one input. -/
def bindAllWrong : ChangeSpec := { name := "bindAll", fn := fun _ => fun
  | [d1, d2] => { results := [.lit (.bool false)], args := [d1, d2] }
  | _ => none }
def BindAllWrongFalsely : Prop := bindAllRow.holds Tryz.pinned (OpenSpec.ofChange bindAllWrong)

/-- 'potsherdlaw04.BindRows': WHATEVER THE INPUT: true; the input reads as it did. -/
def bindRowsSpec : ChangeSpec := { name := "bindRows", fn := fun _ => fun
  | [d1, d2, d3] => { results := [.lit (.bool true)], args := [d1, d2, d3] }
  | _ => none }
def bindRowsRow : OpenClaim := { program := "ytfifphfihdhlaaagreatdoor", sum := "d151b778c9bbe5bd6711ea96541df99cb8583e973377b90ba16cdaa3684a350b", func := "potsherd/potsherdlaw04.BindRows", spec := "bindRows", inPlace := ["internal/abi.NoEscape", "internal/bytealg.IndexByteString", "internal/bytealg.IndexString"], unfollowed := true, recurses := true, named := ["strconv.ErrSyntax", "strconv.ErrRange", "internal/strconv.uint64pow10", "math/bits.deBruijn32tab", "math/bits.deBruijn64tab", "unicode/utf8.first", "unicode/utf8.acceptRanges", "potsherd/parse.words", "internal/bytealg.MaxLen", "potsherd/parse.aggregates"], apart := false, laid := [("math/bits.deBruijn32tab", laid_math_bits_deBruijn32tab), ("math/bits.deBruijn64tab", laid_math_bits_deBruijn64tab), ("internal/strconv.uint64pow10", laid_internal_strconv_uint64pow10), ("unicode/utf8.acceptRanges", laid_unicode_utf8_acceptRanges), ("strconv.ErrRange", laid_strconv_ErrRange), ("strconv.ErrSyntax", laid_strconv_ErrSyntax), ("potsherd/parse.words", laid_potsherd_parse_words), ("potsherd/parse.aggregates", laid_potsherd_parse_aggregates), ("unicode/utf8.first", laid_unicode_utf8_first)] }
def BindRowsSaid : Prop := bindRowsRow.holds Tryz.pinned (OpenSpec.ofChange bindRowsSpec)

/-- ITS FALSE NEIGHBOUR: 'it returns false'. Refute it at one input. -/
def bindRowsWrong : ChangeSpec := { name := "bindRows", fn := fun _ => fun
  | [d1, d2, d3] => { results := [.lit (.bool false)], args := [d1, d2, d3] }
  | _ => none }
def BindRowsWrongFalsely : Prop := bindRowsRow.holds Tryz.pinned (OpenSpec.ofChange bindRowsWrong)

/-- 'potsherdlaw04.BindTypes': WHATEVER THE INPUT: true; the input reads as it did. -/
def bindTypesSpec : ChangeSpec := { name := "bindTypes", fn := fun _ => fun
  | [d1, d2] => { results := [.lit (.bool true)], args := [d1, d2] }
  | _ => none }
def bindTypesRow : OpenClaim := { program := "ytfifphfihdhlaaagreatdoor", sum := "d151b778c9bbe5bd6711ea96541df99cb8583e973377b90ba16cdaa3684a350b", func := "potsherd/potsherdlaw04.BindTypes", spec := "bindTypes", inPlace := ["internal/abi.NoEscape", "internal/bytealg.IndexByteString", "internal/bytealg.IndexString"], unfollowed := true, recurses := true, named := ["strconv.ErrSyntax", "strconv.ErrRange", "internal/strconv.uint64pow10", "math/bits.deBruijn32tab", "math/bits.deBruijn64tab", "unicode/utf8.first", "unicode/utf8.acceptRanges", "potsherd/parse.words", "internal/bytealg.MaxLen", "potsherd/parse.aggregates"], apart := false, laid := [("math/bits.deBruijn32tab", laid_math_bits_deBruijn32tab), ("math/bits.deBruijn64tab", laid_math_bits_deBruijn64tab), ("internal/strconv.uint64pow10", laid_internal_strconv_uint64pow10), ("unicode/utf8.acceptRanges", laid_unicode_utf8_acceptRanges), ("strconv.ErrRange", laid_strconv_ErrRange), ("strconv.ErrSyntax", laid_strconv_ErrSyntax), ("potsherd/parse.words", laid_potsherd_parse_words), ("potsherd/parse.aggregates", laid_potsherd_parse_aggregates), ("unicode/utf8.first", laid_unicode_utf8_first)] }
def BindTypesSaid : Prop := bindTypesRow.holds Tryz.pinned (OpenSpec.ofChange bindTypesSpec)

/-- ITS FALSE NEIGHBOUR: 'it returns false'. Refute it at one input. -/
def bindTypesWrong : ChangeSpec := { name := "bindTypes", fn := fun _ => fun
  | [d1, d2] => { results := [.lit (.bool false)], args := [d1, d2] }
  | _ => none }
def BindTypesWrongFalsely : Prop := bindTypesRow.holds Tryz.pinned (OpenSpec.ofChange bindTypesWrong)

/-- 'potsherdlaw04.BindDoes': WHATEVER THE INPUT: true; the input reads as it did. -/
def bindDoesSpec : ChangeSpec := { name := "bindDoes", fn := fun _ => fun
  | [d1, d2, d3] => { results := [.lit (.bool true)], args := [d1, d2, d3] }
  | _ => none }
def bindDoesRow : OpenClaim := { program := "ytfifphfihdhlaaagreatdoor", sum := "d151b778c9bbe5bd6711ea96541df99cb8583e973377b90ba16cdaa3684a350b", func := "potsherd/potsherdlaw04.BindDoes", spec := "bindDoes", inPlace := ["internal/bytealg.IndexByteString", "internal/bytealg.IndexString", "internal/abi.NoEscape"], unfollowed := true, recurses := true, named := ["unicode/utf8.first", "unicode/utf8.acceptRanges", "potsherd/parse.words", "internal/bytealg.MaxLen", "internal/strconv.uint64pow10", "math/bits.deBruijn32tab", "math/bits.deBruijn64tab", "strconv.ErrSyntax", "strconv.ErrRange", "potsherd/parse.aggregates"], apart := false, laid := [("math/bits.deBruijn32tab", laid_math_bits_deBruijn32tab), ("math/bits.deBruijn64tab", laid_math_bits_deBruijn64tab), ("internal/strconv.uint64pow10", laid_internal_strconv_uint64pow10), ("unicode/utf8.acceptRanges", laid_unicode_utf8_acceptRanges), ("strconv.ErrRange", laid_strconv_ErrRange), ("strconv.ErrSyntax", laid_strconv_ErrSyntax), ("potsherd/parse.words", laid_potsherd_parse_words), ("potsherd/parse.aggregates", laid_potsherd_parse_aggregates), ("unicode/utf8.first", laid_unicode_utf8_first)] }
def BindDoesSaid : Prop := bindDoesRow.holds Tryz.pinned (OpenSpec.ofChange bindDoesSpec)

/-- ITS FALSE NEIGHBOUR: 'it returns false'. Refute it at one input. -/
def bindDoesWrong : ChangeSpec := { name := "bindDoes", fn := fun _ => fun
  | [d1, d2, d3] => { results := [.lit (.bool false)], args := [d1, d2, d3] }
  | _ => none }
def BindDoesWrongFalsely : Prop := bindDoesRow.holds Tryz.pinned (OpenSpec.ofChange bindDoesWrong)

/- THE SECOND FORM. 'bulk': how many values and letters a reading holds, each counted each time it is reached (what is shared counts as often as it is met; a slice's spare places count too). A statement '..UptoSaid' is the law's where the arguments, and the package variables that the reading takes, are together of bulk at most 1048576: NARROWER than '..Said'. Prove '..Said' where nothing that the law and all that it calls make is longer than what came in: it says more and counts as full. Else prove '..UptoSaid'. A law counts once. -/
mutual
def uptoBulk {H : Type} : DataW H → Nat
  | .lit (.string bytes) => bytes.length + 1
  | .lit _ => 1
  | .nil => 1
  | .ptr d => uptoBulk d + 1
  | .slice elems spare => uptoBulkAll elems + uptoBulkAll spare + 1
  | .agg parts => uptoBulkAll parts + 1
  | .iface _ d => uptoBulk d + 1
  | .map entries => uptoBulkEntries entries + 1
  | .held _ => 1
def uptoBulkAll {H : Type} : List (DataW H) → Nat
  | [] => 0
  | d :: r => uptoBulk d + uptoBulkAll r
def uptoBulkEntries {H : Type} : List (Lit × DataW H) → Nat
  | [] => 0
  | x :: r => uptoBulkEntry x + uptoBulkEntries r
def uptoBulkEntry {H : Type} : Lit × DataW H → Nat
  | (.string bytes, d) => bytes.length + uptoBulk d + 1
  | (_, d) => uptoBulk d + 1
 end
def uptoSmall : (H : Type) → List (DataW H) → Bool := fun _ ds => decide (uptoBulkAll ds ≤ 1048576)
def OpenSpec.upto (s : _root_.Go.ChangeSpec) : _root_.Go.OpenSpec := { _root_.Go.OpenSpec.ofChange s with cond := some uptoSmall }

/-- 'potsherdlaw04.BindKinds', WHERE WHAT IT READS IS OF BULK AT MOST 1048576: true; the input reads as it did. -/
def bindKindsUptoRow : OpenClaim := { program := "ytfifphfihdhlaaagreatdoor", sum := "d151b778c9bbe5bd6711ea96541df99cb8583e973377b90ba16cdaa3684a350b", func := "potsherd/potsherdlaw04.BindKinds", spec := "bindKinds", inPlace := ["internal/abi.NoEscape", "internal/bytealg.IndexByteString", "internal/bytealg.IndexString"], unfollowed := true, recurses := true, named := ["strconv.ErrSyntax", "strconv.ErrRange", "internal/strconv.uint64pow10", "math/bits.deBruijn32tab", "math/bits.deBruijn64tab", "unicode/utf8.first", "unicode/utf8.acceptRanges", "potsherd/parse.words", "internal/bytealg.MaxLen", "potsherd/parse.aggregates"], apart := false, laid := [("math/bits.deBruijn32tab", laid_math_bits_deBruijn32tab), ("math/bits.deBruijn64tab", laid_math_bits_deBruijn64tab), ("internal/strconv.uint64pow10", laid_internal_strconv_uint64pow10), ("unicode/utf8.acceptRanges", laid_unicode_utf8_acceptRanges), ("strconv.ErrRange", laid_strconv_ErrRange), ("strconv.ErrSyntax", laid_strconv_ErrSyntax), ("potsherd/parse.words", laid_potsherd_parse_words), ("potsherd/parse.aggregates", laid_potsherd_parse_aggregates), ("unicode/utf8.first", laid_unicode_utf8_first)], narrowed := true }
def BindKindsUptoSaid : Prop := bindKindsUptoRow.holds Tryz.pinned (OpenSpec.upto bindKindsSpec)

/-- 'potsherdlaw04.BindNames', WHERE WHAT IT READS IS OF BULK AT MOST 1048576: true; the input reads as it did. -/
def bindNamesUptoRow : OpenClaim := { program := "ytfifphfihdhlaaagreatdoor", sum := "d151b778c9bbe5bd6711ea96541df99cb8583e973377b90ba16cdaa3684a350b", func := "potsherd/potsherdlaw04.BindNames", spec := "bindNames", inPlace := ["internal/abi.NoEscape", "internal/bytealg.IndexByteString", "internal/bytealg.IndexString"], unfollowed := true, recurses := true, named := ["strconv.ErrSyntax", "strconv.ErrRange", "internal/strconv.uint64pow10", "math/bits.deBruijn32tab", "math/bits.deBruijn64tab", "unicode/utf8.first", "unicode/utf8.acceptRanges", "potsherd/parse.words", "internal/bytealg.MaxLen", "potsherd/parse.aggregates"], apart := false, laid := [("math/bits.deBruijn32tab", laid_math_bits_deBruijn32tab), ("math/bits.deBruijn64tab", laid_math_bits_deBruijn64tab), ("internal/strconv.uint64pow10", laid_internal_strconv_uint64pow10), ("unicode/utf8.acceptRanges", laid_unicode_utf8_acceptRanges), ("strconv.ErrRange", laid_strconv_ErrRange), ("strconv.ErrSyntax", laid_strconv_ErrSyntax), ("potsherd/parse.words", laid_potsherd_parse_words), ("potsherd/parse.aggregates", laid_potsherd_parse_aggregates), ("unicode/utf8.first", laid_unicode_utf8_first)], narrowed := true }
def BindNamesUptoSaid : Prop := bindNamesUptoRow.holds Tryz.pinned (OpenSpec.upto bindNamesSpec)

/-- 'potsherdlaw04.BindAll', WHERE WHAT IT READS IS OF BULK AT MOST 1048576: true; the input reads as it did. -/
def bindAllUptoRow : OpenClaim := { program := "ytfifphfihdhlaaagreatdoor", sum := "d151b778c9bbe5bd6711ea96541df99cb8583e973377b90ba16cdaa3684a350b", func := "potsherd/potsherdlaw04.BindAll", spec := "bindAll", inPlace := ["internal/abi.NoEscape", "internal/bytealg.IndexByteString", "internal/bytealg.IndexString"], unfollowed := true, recurses := true, named := ["strconv.ErrSyntax", "strconv.ErrRange", "internal/strconv.uint64pow10", "math/bits.deBruijn32tab", "math/bits.deBruijn64tab", "unicode/utf8.first", "unicode/utf8.acceptRanges", "potsherd/parse.words", "internal/bytealg.MaxLen", "potsherd/parse.aggregates"], apart := false, laid := [("math/bits.deBruijn32tab", laid_math_bits_deBruijn32tab), ("math/bits.deBruijn64tab", laid_math_bits_deBruijn64tab), ("internal/strconv.uint64pow10", laid_internal_strconv_uint64pow10), ("unicode/utf8.acceptRanges", laid_unicode_utf8_acceptRanges), ("strconv.ErrRange", laid_strconv_ErrRange), ("strconv.ErrSyntax", laid_strconv_ErrSyntax), ("potsherd/parse.words", laid_potsherd_parse_words), ("potsherd/parse.aggregates", laid_potsherd_parse_aggregates), ("unicode/utf8.first", laid_unicode_utf8_first)], narrowed := true }
def BindAllUptoSaid : Prop := bindAllUptoRow.holds Tryz.pinned (OpenSpec.upto bindAllSpec)

/-- 'potsherdlaw04.BindRows', WHERE WHAT IT READS IS OF BULK AT MOST 1048576: true; the input reads as it did. -/
def bindRowsUptoRow : OpenClaim := { program := "ytfifphfihdhlaaagreatdoor", sum := "d151b778c9bbe5bd6711ea96541df99cb8583e973377b90ba16cdaa3684a350b", func := "potsherd/potsherdlaw04.BindRows", spec := "bindRows", inPlace := ["internal/abi.NoEscape", "internal/bytealg.IndexByteString", "internal/bytealg.IndexString"], unfollowed := true, recurses := true, named := ["strconv.ErrSyntax", "strconv.ErrRange", "internal/strconv.uint64pow10", "math/bits.deBruijn32tab", "math/bits.deBruijn64tab", "unicode/utf8.first", "unicode/utf8.acceptRanges", "potsherd/parse.words", "internal/bytealg.MaxLen", "potsherd/parse.aggregates"], apart := false, laid := [("math/bits.deBruijn32tab", laid_math_bits_deBruijn32tab), ("math/bits.deBruijn64tab", laid_math_bits_deBruijn64tab), ("internal/strconv.uint64pow10", laid_internal_strconv_uint64pow10), ("unicode/utf8.acceptRanges", laid_unicode_utf8_acceptRanges), ("strconv.ErrRange", laid_strconv_ErrRange), ("strconv.ErrSyntax", laid_strconv_ErrSyntax), ("potsherd/parse.words", laid_potsherd_parse_words), ("potsherd/parse.aggregates", laid_potsherd_parse_aggregates), ("unicode/utf8.first", laid_unicode_utf8_first)], narrowed := true }
def BindRowsUptoSaid : Prop := bindRowsUptoRow.holds Tryz.pinned (OpenSpec.upto bindRowsSpec)

/-- 'potsherdlaw04.BindTypes', WHERE WHAT IT READS IS OF BULK AT MOST 1048576: true; the input reads as it did. -/
def bindTypesUptoRow : OpenClaim := { program := "ytfifphfihdhlaaagreatdoor", sum := "d151b778c9bbe5bd6711ea96541df99cb8583e973377b90ba16cdaa3684a350b", func := "potsherd/potsherdlaw04.BindTypes", spec := "bindTypes", inPlace := ["internal/abi.NoEscape", "internal/bytealg.IndexByteString", "internal/bytealg.IndexString"], unfollowed := true, recurses := true, named := ["strconv.ErrSyntax", "strconv.ErrRange", "internal/strconv.uint64pow10", "math/bits.deBruijn32tab", "math/bits.deBruijn64tab", "unicode/utf8.first", "unicode/utf8.acceptRanges", "potsherd/parse.words", "internal/bytealg.MaxLen", "potsherd/parse.aggregates"], apart := false, laid := [("math/bits.deBruijn32tab", laid_math_bits_deBruijn32tab), ("math/bits.deBruijn64tab", laid_math_bits_deBruijn64tab), ("internal/strconv.uint64pow10", laid_internal_strconv_uint64pow10), ("unicode/utf8.acceptRanges", laid_unicode_utf8_acceptRanges), ("strconv.ErrRange", laid_strconv_ErrRange), ("strconv.ErrSyntax", laid_strconv_ErrSyntax), ("potsherd/parse.words", laid_potsherd_parse_words), ("potsherd/parse.aggregates", laid_potsherd_parse_aggregates), ("unicode/utf8.first", laid_unicode_utf8_first)], narrowed := true }
def BindTypesUptoSaid : Prop := bindTypesUptoRow.holds Tryz.pinned (OpenSpec.upto bindTypesSpec)

/-- 'potsherdlaw04.BindDoes', WHERE WHAT IT READS IS OF BULK AT MOST 1048576: true; the input reads as it did. -/
def bindDoesUptoRow : OpenClaim := { program := "ytfifphfihdhlaaagreatdoor", sum := "d151b778c9bbe5bd6711ea96541df99cb8583e973377b90ba16cdaa3684a350b", func := "potsherd/potsherdlaw04.BindDoes", spec := "bindDoes", inPlace := ["internal/bytealg.IndexByteString", "internal/bytealg.IndexString", "internal/abi.NoEscape"], unfollowed := true, recurses := true, named := ["unicode/utf8.first", "unicode/utf8.acceptRanges", "potsherd/parse.words", "internal/bytealg.MaxLen", "internal/strconv.uint64pow10", "math/bits.deBruijn32tab", "math/bits.deBruijn64tab", "strconv.ErrSyntax", "strconv.ErrRange", "potsherd/parse.aggregates"], apart := false, laid := [("math/bits.deBruijn32tab", laid_math_bits_deBruijn32tab), ("math/bits.deBruijn64tab", laid_math_bits_deBruijn64tab), ("internal/strconv.uint64pow10", laid_internal_strconv_uint64pow10), ("unicode/utf8.acceptRanges", laid_unicode_utf8_acceptRanges), ("strconv.ErrRange", laid_strconv_ErrRange), ("strconv.ErrSyntax", laid_strconv_ErrSyntax), ("potsherd/parse.words", laid_potsherd_parse_words), ("potsherd/parse.aggregates", laid_potsherd_parse_aggregates), ("unicode/utf8.first", laid_unicode_utf8_first)], narrowed := true }
def BindDoesUptoSaid : Prop := bindDoesUptoRow.holds Tryz.pinned (OpenSpec.upto bindDoesSpec)

end Rows
end Go.Proofs.YtfifphfihdhlaaaGreatDoor
