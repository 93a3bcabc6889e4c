/- What quote writes. -/
import Derived.Test.YtfifphfihdhlaaaGreatDoorLiLj
import Derived.WalkKit
import Derived.Deep.DrawnRows
import Derived.Deep.QuietTactic
import Derived.BigQuiet
import Derived.Lib.ItoaLen
set_option maxRecDepth 100000
set_option maxHeartbeats 32000000
namespace Go.Proofs.YtfifphfihdhlaaaGreatDoor
open Go.RowKit Go.Lib Go.Sort
set_option linter.unusedVariables false
set_option linter.unusedSimpArgs false
def Glob2 (w : World) : Prop := Glob w ∧ w.cell? ⟨7, 15, none⟩ = some (.int .u8 4)
theorem Glob2.below {w w' : World} (h : Glob2 w) (hb : Below w.heap.size w w') : Glob2 w' := ⟨h.1.below hb, cell_below hb h.2⟩
open Go.RowKit Go.Lib Go.Sort
attribute [local go_sem ↓] Go.wp_at_zero Go.wp_at_succ
theorem below_drewN {B : Nat} {a w : World} (h : Below B a w) (n : Nat) : Below B a (w.drewN n) := h.trans ⟨rfl, rfl, rfl, Nat.le_refl _, fun _ _ => rfl⟩
end Go.Proofs.YtfifphfihdhlaaaGreatDoor
