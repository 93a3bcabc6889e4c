/- What the reference's Check, Of, Shard answer, and place.Shard of any row. -/
import Derived.Test.YthfoijnjgdeaaaaDoorPi
import Derived.Test.YthfoijnjgdeaaaaDoorRd
namespace Go.Proofs.YthfoijnjgdeaaaaDoor
open Go.Shelf Go.RowKit Go.Lib Go.Sort
set_option linter.unusedVariables false
set_option linter.unusedSimpArgs false
attribute [local go_sem ↓] Go.wp_at_zero Go.wp_at_succ
set_option maxRecDepth 100000 in
set_option maxHeartbeats 2000000 in
theorem refLay_any (N S R : Int) (w : World) : Calls Tryd.prog 19 #[.agg #[.int .i64 N, .int .i64 S, .int .i64 R]] w fun e w' => e = .returned (.int .i64 (layE N S R)) ∧ Below w.heap.size w w' := by
  by_cases h1 : N < 2
  · rw [show layE N S R = 2 by unfold layE; rw [if_neg (by omega)]]
    go_enter Tryd.func19, Tryd.ntmps19
    go_wp2
    go_ret
    exact ⟨rfl, (Below.refl _ _).alloc (Nat.le_refl _) _⟩
  by_cases h2 : 8 < N
  · rw [show layE N S R = 2 by unfold layE; rw [if_neg (by omega)]]
    go_enter Tryd.func19, Tryd.ntmps19
    go_wp2
    go_ret
    exact ⟨rfl, (Below.refl _ _).alloc (Nat.le_refl _) _⟩
  by_cases h3 : S < 1
  · rw [show layE N S R = 2 by unfold layE; rw [if_neg (by omega)]]
    go_enter Tryd.func19, Tryd.ntmps19
    go_wp2
    go_ret
    exact ⟨rfl, (Below.refl _ _).alloc (Nat.le_refl _) _⟩
  by_cases h4 : 8 < S
  · rw [show layE N S R = 2 by unfold layE; rw [if_neg (by omega)]]
    go_enter Tryd.func19, Tryd.ntmps19
    go_wp2
    go_ret
    exact ⟨rfl, (Below.refl _ _).alloc (Nat.le_refl _) _⟩
  by_cases h5 : R < 1
  · rw [show layE N S R = 2 by unfold layE; rw [if_neg (by omega)]]
    go_enter Tryd.func19, Tryd.ntmps19
    go_wp2
    go_ret
    exact ⟨rfl, (Below.refl _ _).alloc (Nat.le_refl _) _⟩
  have hw : IntKind.i64.wrap (N - 1) = N - 1 := by rw [IntKind.wrap_i64]; omega
  by_cases h6 : N - 1 < R
  · rw [show layE N S R = 2 by unfold layE; rw [if_neg (by omega)]]
    go_enter Tryd.func19, Tryd.ntmps19
    go_wp2
    go_ret
    exact ⟨rfl, (Below.refl _ _).alloc (Nat.le_refl _) _⟩
  · rw [show layE N S R = 0 by unfold layE; rw [if_pos (by omega)]]
    go_enter Tryd.func19, Tryd.ntmps19
    go_wp2
    go_ret
    exact ⟨rfl, (Below.refl _ _).alloc (Nat.le_refl _) _⟩

set_option maxRecDepth 100000 in
set_option maxHeartbeats 2000000 in
theorem refOf_any (S : Int) (x : Val) (w : World) (hS : 1 ≤ S ∧ S ≤ 8) (k0 : 0 ≤ x.k) (k1 : x.k ≤ 255) (hs : x.s.size ≤ 140737488351232) :
    Calls Tryd.prog 29 #[.agg #[.int .u8 x.k, .bool x.b, .int .i64 x.n, .string x.s], .int .i64 S] w fun e w' => e = .returned (.int .i64 (hashV x % S)) ∧ Below w.heap.size w w' := by
  obtain ⟨xk, xb, xn, xs'⟩ := x
  have hh := hashV_range ⟨xk, xb, xn, xs'⟩
  simp only at k0 k1 hs
  obtain ⟨H, hH⟩ : ∃ H, hashV ⟨xk, xb, xn, xs'⟩ = H := ⟨_, rfl⟩
  have CH : Hid (∀ W, Calls Tryd.prog 47 #[.agg #[.int .u8 xk, .bool xb, .int .i64 xn, .string xs']] W fun e w' => e = .returned (.int .u64 H) ∧ Below W.heap.size W w') := fun W => by
    rw [← hH]; exact hashRef_any xk xb xn xs' W k0 k1 hs
  rw [hH] at hh ⊢
  have q1 : IntKind.u64.wrap S = S := by rw [IntKind.wrap_u64]; omega
  have q2 : (S == 0) = false := beq_eq_false_iff_ne.2 (by omega)
  have q3 : H.tmod S = H % S := Int.tmod_eq_emod_of_nonneg (by omega)
  have q4 : 0 ≤ H % S := Int.emod_nonneg _ (by omega)
  have q5 : H % S < S := Int.emod_lt_of_pos _ (by omega)
  have q6 : IntKind.i64.wrap (H % S) = H % S := by rw [IntKind.wrap_i64]; omega
  have q7 : IntKind.u64.wrap (H % S) = H % S := by rw [IntKind.wrap_u64]; omega
  clear hH
  go_enter Tryd.func29, Tryd.ntmps29
  go_wp2_with fail
  refine (CH.out _).mono ?_
  rintro e w1 ⟨rfl, hb1⟩
  have HB : Hid (Below w.heap.size w w1) := ((Below.refl _ _).alloc (Nat.le_refl _) _).trans (hb1.mono (by simp))
  clear hb1
  go_wp2_with fail
  go_ret
  exact ⟨rfl, HB.out⟩
end Go.Proofs.YthfoijnjgdeaaaaDoor
