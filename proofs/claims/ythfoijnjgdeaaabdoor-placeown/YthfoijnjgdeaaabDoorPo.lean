/- Layouts: what the reference's Check answers. -/
import Derived.Test.YthfoijnjgdeaaabDoorPh
namespace Go.Proofs.YthfoijnjgdeaaabDoor
open Go.Shelf Go.RowKit Go.Lib Go.Sort
set_option linter.unusedVariables false
set_option linter.unusedSimpArgs false
attribute [local go_sem ↓] Go.wp_at_zero Go.wp_at_succ
set_option maxRecDepth 100000 in
set_option maxHeartbeats 2000000 in
theorem refLay_any (N S R : Int) (w : World) : Calls Tryd.prog 8 #[.agg #[.int .i64 N, .int .i64 S, .int .i64 R]] w fun e w' => e = .returned (.int .i64 (layE N S R)) ∧ Below w.heap.size w w' := by
  by_cases h1 : N < 2
  · rw [show layE N S R = 2 by unfold layE; rw [if_neg (by omega)]]
    go_enter Tryd.func8, Tryd.ntmps8
    go_wp2
    go_ret
    exact ⟨rfl, (Below.refl _ _).alloc (Nat.le_refl _) _⟩
  by_cases h2 : 8 < N
  · rw [show layE N S R = 2 by unfold layE; rw [if_neg (by omega)]]
    go_enter Tryd.func8, Tryd.ntmps8
    go_wp2
    go_ret
    exact ⟨rfl, (Below.refl _ _).alloc (Nat.le_refl _) _⟩
  by_cases h3 : S < 1
  · rw [show layE N S R = 2 by unfold layE; rw [if_neg (by omega)]]
    go_enter Tryd.func8, Tryd.ntmps8
    go_wp2
    go_ret
    exact ⟨rfl, (Below.refl _ _).alloc (Nat.le_refl _) _⟩
  by_cases h4 : 8 < S
  · rw [show layE N S R = 2 by unfold layE; rw [if_neg (by omega)]]
    go_enter Tryd.func8, Tryd.ntmps8
    go_wp2
    go_ret
    exact ⟨rfl, (Below.refl _ _).alloc (Nat.le_refl _) _⟩
  by_cases h5 : R < 1
  · rw [show layE N S R = 2 by unfold layE; rw [if_neg (by omega)]]
    go_enter Tryd.func8, Tryd.ntmps8
    go_wp2
    go_ret
    exact ⟨rfl, (Below.refl _ _).alloc (Nat.le_refl _) _⟩
  have hw : IntKind.i64.wrap (N - 1) = N - 1 := by rw [IntKind.wrap_i64]; omega
  by_cases h6 : N - 1 < R
  · rw [show layE N S R = 2 by unfold layE; rw [if_neg (by omega)]]
    go_enter Tryd.func8, Tryd.ntmps8
    go_wp2
    go_ret
    exact ⟨rfl, (Below.refl _ _).alloc (Nat.le_refl _) _⟩
  · rw [show layE N S R = 0 by unfold layE; rw [if_pos (by omega)]]
    go_enter Tryd.func8, Tryd.ntmps8
    go_wp2
    go_ret
    exact ⟨rfl, (Below.refl _ _).alloc (Nat.le_refl _) _⟩
end Go.Proofs.YthfoijnjgdeaaabDoor
