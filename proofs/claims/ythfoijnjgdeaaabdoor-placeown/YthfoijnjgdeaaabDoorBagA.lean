/- What compareLists answers of two lists of rows. -/
import Derived.Test.YthfoijnjgdeaaabDoorTC
namespace Go.Proofs.YthfoijnjgdeaaabDoor
open Go.RowKit Go.Lib
set_option linter.unusedVariables false
attribute [local go_sem ↓] Go.wp_at_zero Go.wp_at_succ

/-- The cells of a list of rows. -/
def RowsIs (w : World) (blk off : Nat) (rs : List (Value × List Val)) : Prop :=
  ∀ (j : Nat) (h : j < rs.length), w.cell? ⟨blk, off + j, none⟩ = some rs[j].1 ∧ RowV w rs[j].1 rs[j].2

theorem RowV.slice {w : World} {v : Value} {vs : List Val} (h : RowV w v vs) : ∃ p n c, v = .slice p n c := by
  obtain ⟨_, ⟨p, c, rfl, _⟩ | ⟨b, o, c, rfl, _⟩⟩ := h
  · exact ⟨_, _, _, rfl⟩
  · exact ⟨_, _, _, rfl⟩

end Go.Proofs.YthfoijnjgdeaaabDoor
