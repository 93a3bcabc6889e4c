/- Laid at this translation: the closures of slices.SortFunc and of slices.Clone at rows. -/
import Derived.Shelf.SlSortCmp.NoneTotal
import Derived.Shelf.SlicesE.Clone
import Derived.Test.YthfoijnjgdeaaabDoorProg
namespace Go.Proofs
open Go.Shelf
end Go.Proofs
