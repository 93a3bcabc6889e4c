/- Laid at this translation: the contracts of strings.Compare and of utf8.DecodeRuneInString, each by one application. -/
import Derived.Shelf.Small.Strs
import Derived.Shelf.Unicode.DecodeAny
import Derived.Test.YtajomnfeicfdlaaGreatDoorProg
namespace Go.Proofs
open Go.Shelf
end Go.Proofs
