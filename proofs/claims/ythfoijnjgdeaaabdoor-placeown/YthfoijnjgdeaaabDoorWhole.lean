/- What cmp.Or and compareWhole answer: values told apart by all of their fields. -/
import Derived.Test.YthfoijnjgdeaaabDoorChk
import Derived.Sort.Grow
namespace Go.Proofs.YthfoijnjgdeaaabDoor
open Go.RowKit Go.Lib
set_option linter.unusedVariables false
attribute [local go_sem ↓] Go.wp_at_zero Go.wp_at_succ

/-- The first number that is not nought. -/
def firstNZ : List Int → Int
  | [] => 0
  | x :: xs => if x = 0 then firstNZ xs else x
theorem firstNZ_drop (zs : List Int) (k : Nat) (h : k < zs.length) : firstNZ (zs.drop k) = if zs.getD k 0 = 0 then firstNZ (zs.drop (k + 1)) else zs.getD k 0 := by
  rw [List.drop_eq_getElem_cons h]
  simp [firstNZ, h]

theorem two_grow (w : World) (o1 o2 : Obj) : (w.alloc o1).alloc o2 = Go.Sort.grow (w.drewN 0) #[o1, o2] := by
  rw [Go.Sort.alloc_eq_grow, Go.Sort.alloc_eq_grow, Go.Sort.grow_grow]
  rfl
theorem three_grow (w : World) (o1 o2 o3 : Obj) : (((w.alloc o1).alloc o2).alloc o3).drew = Go.Sort.grow (w.drewN 1) #[o1, o2, o3] := by
  rw [Go.Sort.alloc_eq_grow, Go.Sort.alloc_eq_grow, Go.Sort.alloc_eq_grow, Go.Sort.grow_grow, Go.Sort.grow_grow]
  rfl
theorem or_cells (X : World) (t : TypeId) (B : Nat) (hB : X.heap.size = B) (x0 x1 x2 x3 : Int) : ∀ j, j < [x0, x1, x2, x3].length → (X.alloc (.cells #[.int .i64 x0, .int .i64 x1, .int .i64 x2, .int .i64 x3] t)).drew.cell? ⟨B, 0 + j, none⟩ = some (.int .i64 ([x0, x1, x2, x3].getD j 0)) := by
  subst hB
  intro j hj
  match j, hj with
  | 0, _ => simp
  | 1, _ => simp
  | 2, _ => simp
  | 3, _ => simp

/-- The order by all fields. -/
def cmpW (x y : Val) : Int := if sameV x y then 0 else firstNZ [cmpI x.k y.k, cmpB x.b y.b, cmpI x.n y.n, Lib.compareBytes x.s.data.toList y.s.data.toList]

end Go.Proofs.YthfoijnjgdeaaabDoor
