/- What slices.Clone and SameBag answer: whether two lists of rows are the same bag. -/
import Derived.Test.YthfoijnjgdeaaabDoorBagB
namespace Go.Proofs.YthfoijnjgdeaaabDoor
open Go.RowKit Go.Lib Go.Sort
set_option linter.unusedVariables false

/-- A list of rows' cells, of rows that lie in a world w0. -/
def RefsAt {w0 : World} (W : World) (blk off : Nat) (rs : List (RowRef w0)) : Prop := ∀ (j : Nat) (h : j < rs.length), W.cell? ⟨blk, off + j, none⟩ = some rs[j].at

theorem frozen_zero {w : World} {g : Nat} {cur : Array Value} {e : TypeId} (h : w.heap[g]? = some (.cells cur e (0, 0))) (j : Nat) : w.frozen? ⟨g, j, none⟩ = false := by
  simp [World.frozen?, h]
theorem info38 : ∃ i0, Tryd.prog.info? 35 = some i0 ∧ i0.zero = some (.slice none 0 0) ∧ i0.size = 1 ∧ i0.bytes = 24 := by
  have h1 : (Tryd.prog.info? 35).bind (·.zero) = some (.slice none 0 0) := by kernel_rfl
  have h2 : (Tryd.prog.info? 35).map (·.size) = some 1 := by kernel_rfl
  have h3 : (Tryd.prog.info? 35).map (·.bytes) = some 24 := by kernel_rfl
  generalize Tryd.prog.info? 35 = i at *
  cases i with
  | none => cases h1
  | some i => exact ⟨i, rfl, h1, Option.some.inj h2, Option.some.inj h3⟩
theorem lexBy_map {α β : Type} (cf : β → β → Int) (m : α → β) : ∀ xs ys : List α, lexBy (fun x y => cf (m x) (m y)) xs ys = lexBy cf (xs.map m) (ys.map m)
  | [], [] => rfl
  | [], _ :: _ => rfl
  | _ :: _, [] => rfl
  | x :: xs, y :: ys => by simp only [lexBy, List.map_cons, lexBy_map cf m xs ys]

/-- Sorted lists of rows are one just if their bags are. -/
theorem bag_iff {w0 : World} (xs ys xs' ys' : List (RowRef w0)) (hx : xs'.Perm xs) (hy : ys'.Perm ys) (sx : InOrder xs') (sy : InOrder ys') :
    lexBy (fun x y : Value × List Val => cmpWR x.2 y.2) (xs'.map (·.1)) (ys'.map (·.1)) = 0 ↔ (xs.map RowRef.vals).Perm (ys.map RowRef.vals) := by
  rw [lexBy_map cmpWR (fun x : Value × List Val => x.2), List.map_map, List.map_map, (tc_rows.list).zero]
  show xs'.map RowRef.vals = ys'.map RowRef.vals ↔ _
  constructor
  · intro e
    exact ((hx.map RowRef.vals).symm.trans (by rw [e])).trans (hy.map RowRef.vals)
  · intro hp
    refine sorted_one tc_rows _ _ ?_ ?_ (((hx.map RowRef.vals).trans hp).trans (hy.map RowRef.vals).symm)
    · rw [List.pairwise_map]; exact sx
    · rw [List.pairwise_map]; exact sy

end Go.Proofs.YthfoijnjgdeaaabDoor
