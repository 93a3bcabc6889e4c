/- What the reference's CheckRow answers. -/
import Derived.Test.YthfoijnjgdeaaabDoorCkRow
import Derived.Test.YthfoijnjgdeaaabDoorTd
namespace Go.Proofs.YthfoijnjgdeaaabDoor
open Go.RowKit Go.Lib
set_option linter.unusedVariables false
attribute [local go_sem ↓] Go.wp_at_zero Go.wp_at_succ
end Go.Proofs.YthfoijnjgdeaaabDoor
