/- What the reference's CheckCols answers. -/
import Derived.Test.YthfoijnjgdeaaabDoorTc
namespace Go.Proofs.YthfoijnjgdeaaabDoor
open Go.RowKit Go.Lib
set_option linter.unusedVariables false
attribute [local go_sem ↓] Go.wp_at_zero Go.wp_at_succ
end Go.Proofs.YthfoijnjgdeaaabDoor
