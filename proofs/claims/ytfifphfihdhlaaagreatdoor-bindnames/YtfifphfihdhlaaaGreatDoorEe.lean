/- The reference's scoped: the columns of two tables, each with its table's name. -/
import Derived.Test.YtfifphfihdhlaaaGreatDoorCuCv
import Derived.Test.YtfifphfihdhlaaaGreatDoorEk
import Derived.Test.YtfifphfihdhlaaaGreatDoorCeCfCg
import Derived.Test.YtfifphfihdhlaaaGreatDoorEa
set_option maxRecDepth 100000
set_option maxHeartbeats 32000000
namespace Go.Proofs.YtfifphfihdhlaaaGreatDoor.Bd
open Go.Shelf Go.RowKit Go.Lib Go.Sort
set_option linter.unusedVariables false
set_option linter.unusedSimpArgs false
attribute [local go_sem ↓] Go.wp_at_zero Go.wp_at_succ
theorem fF {α : Type} {rel : Rel α} {size : Nat} {te : TypeId} {base : Nat} {X : World} {u : Value} {xs : List α} (h : OwnK (fun _ => False) rel size te base X u xs) {b : Nat} (e : u.ownBlock = some b) : base ≤ b ∧ b < X.heap.size := by
 obtain ⟨cells, ho, _⟩ := h
 exact ho.lt b e
end Go.Proofs.YtfifphfihdhlaaaGreatDoor.Bd
