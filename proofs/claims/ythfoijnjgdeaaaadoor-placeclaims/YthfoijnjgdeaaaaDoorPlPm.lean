/- What the reference's Check, Of, Shard answer, and place.Shard of any row. -/
import Derived.Test.YthfoijnjgdeaaaaDoorPgPhPi
import Derived.Test.YthfoijnjgdeaaaaDoorRd
namespace Go.Proofs.YthfoijnjgdeaaaaDoor
open Go.Shelf Go.RowKit Go.Lib Go.Sort
set_option linter.unusedVariables false
set_option linter.unusedSimpArgs false
attribute [local go_sem ↓] Go.wp_at_zero Go.wp_at_succ
set_option maxRecDepth 100000 in
set_option maxHeartbeats 2000000 in
theorem refLay_any (N S R : Int) (w : World) : Calls Tryd.prog 19 #[.agg #[.int .i64 N, .int .i64 S, .int .i64 R]] w fun e w' => e = .returned (.int .i64 (layE N S R)) ∧ Below w.heap.size w w' := by
  by_cases h1 : N < 2
  · rw [show layE N S R = 2 by unfold layE; rw [if_neg (by omega)]]
    go_enter Tryd.func19, Tryd.ntmps19
    go_wp2
    go_ret
    exact ⟨rfl, (Below.refl _ _).alloc (Nat.le_refl _) _⟩
  by_cases h2 : 8 < N
  · rw [show layE N S R = 2 by unfold layE; rw [if_neg (by omega)]]
    go_enter Tryd.func19, Tryd.ntmps19
    go_wp2
    go_ret
    exact ⟨rfl, (Below.refl _ _).alloc (Nat.le_refl _) _⟩
  by_cases h3 : S < 1
  · rw [show layE N S R = 2 by unfold layE; rw [if_neg (by omega)]]
    go_enter Tryd.func19, Tryd.ntmps19
    go_wp2
    go_ret
    exact ⟨rfl, (Below.refl _ _).alloc (Nat.le_refl _) _⟩
  by_cases h4 : 8 < S
  · rw [show layE N S R = 2 by unfold layE; rw [if_neg (by omega)]]
    go_enter Tryd.func19, Tryd.ntmps19
    go_wp2
    go_ret
    exact ⟨rfl, (Below.refl _ _).alloc (Nat.le_refl _) _⟩
  by_cases h5 : R < 1
  · rw [show layE N S R = 2 by unfold layE; rw [if_neg (by omega)]]
    go_enter Tryd.func19, Tryd.ntmps19
    go_wp2
    go_ret
    exact ⟨rfl, (Below.refl _ _).alloc (Nat.le_refl _) _⟩
  have hw : IntKind.i64.wrap (N - 1) = N - 1 := by rw [IntKind.wrap_i64]; omega
  by_cases h6 : N - 1 < R
  · rw [show layE N S R = 2 by unfold layE; rw [if_neg (by omega)]]
    go_enter Tryd.func19, Tryd.ntmps19
    go_wp2
    go_ret
    exact ⟨rfl, (Below.refl _ _).alloc (Nat.le_refl _) _⟩
  · rw [show layE N S R = 0 by unfold layE; rw [if_pos (by omega)]]
    go_enter Tryd.func19, Tryd.ntmps19
    go_wp2
    go_ret
    exact ⟨rfl, (Below.refl _ _).alloc (Nat.le_refl _) _⟩

set_option maxRecDepth 100000 in
set_option maxHeartbeats 2000000 in
theorem refOf_any (S : Int) (x : Val) (w : World) (hS : 1 ≤ S ∧ S ≤ 8) (k0 : 0 ≤ x.k) (k1 : x.k ≤ 255) (hs : x.s.size ≤ 140737488351232) :
    Calls Tryd.prog 29 #[.agg #[.int .u8 x.k, .bool x.b, .int .i64 x.n, .string x.s], .int .i64 S] w fun e w' => e = .returned (.int .i64 (hashV x % S)) ∧ Below w.heap.size w w' := by
  obtain ⟨xk, xb, xn, xs'⟩ := x
  have hh := hashV_range ⟨xk, xb, xn, xs'⟩
  simp only at k0 k1 hs
  obtain ⟨H, hH⟩ : ∃ H, hashV ⟨xk, xb, xn, xs'⟩ = H := ⟨_, rfl⟩
  have CH : Hid (∀ W, Calls Tryd.prog 47 #[.agg #[.int .u8 xk, .bool xb, .int .i64 xn, .string xs']] W fun e w' => e = .returned (.int .u64 H) ∧ Below W.heap.size W w') := fun W => by
    rw [← hH]; exact hashRef_any xk xb xn xs' W k0 k1 hs
  rw [hH] at hh ⊢
  have q1 : IntKind.u64.wrap S = S := by rw [IntKind.wrap_u64]; omega
  have q2 : (S == 0) = false := beq_eq_false_iff_ne.2 (by omega)
  have q3 : H.tmod S = H % S := Int.tmod_eq_emod_of_nonneg (by omega)
  have q4 : 0 ≤ H % S := Int.emod_nonneg _ (by omega)
  have q5 : H % S < S := Int.emod_lt_of_pos _ (by omega)
  have q6 : IntKind.i64.wrap (H % S) = H % S := by rw [IntKind.wrap_i64]; omega
  have q7 : IntKind.u64.wrap (H % S) = H % S := by rw [IntKind.wrap_u64]; omega
  clear hH
  go_enter Tryd.func29, Tryd.ntmps29
  go_wp2_with fail
  refine (CH.out _).mono ?_
  rintro e w1 ⟨rfl, hb1⟩
  have HB : Hid (Below w.heap.size w w1) := ((Below.refl _ _).alloc (Nat.le_refl _) _).trans (hb1.mono (by simp))
  clear hb1
  go_wp2_with fail
  go_ret
  exact ⟨rfl, HB.out⟩
end Go.Proofs.YthfoijnjgdeaaaaDoor
/- What the reference's Shard and place.Shard answer of any row. -/
namespace Go.Proofs.YthfoijnjgdeaaaaDoor
open Go.Shelf Go.RowKit Go.Lib Go.Sort
set_option linter.unusedVariables false
set_option linter.unusedSimpArgs false
attribute [local go_sem ↓] Go.wp_at_zero Go.wp_at_succ
theorem layE_two {N S R : Int} (h : layE N S R ≠ 0) : layE N S R = 2 := by
  unfold layE at h ⊢
  split at h
  · exact absurd rfl h
  · rename_i h1; rw [if_neg h1]
/-- A row's shard and its error. -/
def shV (N S R : Int) (xs : List Val) : Int := if layE N S R = 0 then shd S xs else 0
def shE (N S R : Int) (xs : List Val) : Int := if layE N S R = 0 then (if xs = [] then 3 else 0) else 2
set_option maxRecDepth 100000 in
set_option maxHeartbeats 4000000 in
theorem shardAll_any (N S R : Int) (v : Value) (xs : List Val) (w : World) (hv : RowV w v xs) (hx : ∀ x ∈ xs, 0 ≤ x.k ∧ x.k ≤ 255 ∧ x.s.size ≤ 140737488351232) :
    Calls Tryd.prog 11 #[.agg #[.int .i64 N, .int .i64 S, .int .i64 R], v] w fun e w' => e = .returned (.tuple #[.int .i64 (shV N S R xs), .int .i64 (shE N S R xs)]) ∧ Below w.heap.size w w' := by
  by_cases h0 : layE N S R = 0
  · have e1 : shV N S R xs = shd S xs := by unfold shV; rw [if_pos h0]
    have e2 : shE N S R xs = if xs = [] then 3 else 0 := by unfold shE; rw [if_pos h0]
    rw [e1, e2]
    cases xs with
    | cons x xs =>
      rw [if_neg (by simp)]
      obtain ⟨k0, k1, k2⟩ := hx x (by simp)
      exact shard_any N S R v x xs w h0 hv k0 k1 (by omega)
    | nil =>
      rw [if_pos rfl]
      have C1 : Hid (∀ W, Calls Tryd.prog 18 #[.agg #[.int .i64 N, .int .i64 S, .int .i64 R]] W fun e w' => e = .returned (.int .i64 0) ∧ Below W.heap.size W w') := fun W => by rw [← h0]; exact layCheck_any N S R W
      obtain ⟨p, c, rfl, _, _⟩ := hv.form
      clear hv h0 e1 e2 hx
      show Calls Tryd.prog 11 #[.agg #[.int .i64 N, .int .i64 S, .int .i64 R], .slice p 0 c] w _
      have e3 : shd S [] = 0 := rfl
      rw [e3]
      clear e3
      go_enter Tryd.func11, Tryd.ntmps11
      go_wp2_with fail
      refine (C1.out _).mono ?_
      rintro e w1 ⟨rfl, hb1⟩
      have HB : Hid (Below w.heap.size w w1) := (box3_below w _ _ _).trans (hb1.mono (by simp))
      clear hb1
      go_wp2_with fail
      go_ret2
      exact ⟨rfl, HB.out⟩
  · have e1 : shV N S R xs = 0 := by unfold shV; rw [if_neg h0]
    have e2 : shE N S R xs = 2 := by unfold shE; rw [if_neg h0]
    have C1 : Hid (∀ W, Calls Tryd.prog 18 #[.agg #[.int .i64 N, .int .i64 S, .int .i64 R]] W fun e w' => e = .returned (.int .i64 2) ∧ Below W.heap.size W w') := fun W => by rw [← layE_two h0]; exact layCheck_any N S R W
    rw [e1, e2]
    obtain ⟨p, c, rfl, _, _⟩ := hv.form
    clear hv h0 e1 e2 hx
    go_enter Tryd.func11, Tryd.ntmps11
    go_wp2_with fail
    refine (C1.out _).mono ?_
    rintro e w1 ⟨rfl, hb1⟩
    have HB : Hid (Below w.heap.size w w1) := (box3_below w _ _ _).trans (hb1.mono (by simp))
    clear hb1
    go_wp2_with fail
    go_ret2
    exact ⟨rfl, HB.out⟩
set_option maxRecDepth 100000 in
set_option maxHeartbeats 4000000 in
theorem refShard_any (N S R : Int) (v : Value) (xs : List Val) (w : World) (hv : RowV w v xs) (hx : ∀ x ∈ xs, 0 ≤ x.k ∧ x.k ≤ 255 ∧ x.s.size ≤ 140737488351232) :
    Calls Tryd.prog 12 #[.agg #[.int .i64 N, .int .i64 S, .int .i64 R], v] w fun e w' => e = .returned (.tuple #[.int .i64 (shV N S R xs), .int .i64 (shE N S R xs)]) ∧ Below w.heap.size w w' := by
  by_cases h0 : layE N S R = 0
  · have C1 : Hid (∀ W, Calls Tryd.prog 19 #[.agg #[.int .i64 N, .int .i64 S, .int .i64 R]] W fun e w' => e = .returned (.int .i64 0) ∧ Below W.heap.size W w') := fun W => by rw [← h0]; exact refLay_any N S R W
    have e1 : shV N S R xs = shd S xs := by unfold shV; rw [if_pos h0]
    have e2 : shE N S R xs = if xs = [] then 3 else 0 := by unfold shE; rw [if_pos h0]
    rw [e1, e2]
    cases xs with
    | cons x xs =>
      rw [if_neg (by simp)]
      obtain ⟨k0, k1, k2⟩ := hx x (by simp)
      obtain ⟨a1, a2, a3, a4, a5, a6⟩ := layE_zero.1 h0
      have C2 : Hid (∀ W, Calls Tryd.prog 29 #[.agg #[.int .u8 x.k, .bool x.b, .int .i64 x.n, .string x.s], .int .i64 S] W fun e w' => e = .returned (.int .i64 (shd S (x :: xs))) ∧ Below W.heap.size W w') := fun W => refOf_any S x W ⟨a3, a4⟩ k0 k1 k2
      obtain ⟨p, c, rfl, hl, hp⟩ := hv.form
      obtain ⟨b, o, rfl, hr, hB⟩ := hp (by simp)
      obtain ⟨x0, x1, x2, x3⟩ := hr 0 (by simp)
      simp only [List.getElem_cons_zero, Nat.zero_mul, Nat.add_zero] at x0 x1 x2 x3
      have hz : (((x :: xs).length : Int) == 0) = false := beq_eq_false_iff_ne.2 (by simp; omega)
      have hz2 : (0 : Int) < ((x :: xs).length : Int) := by simp
      obtain ⟨L, hL⟩ : ∃ L, (x :: xs).length = L := ⟨_, rfl⟩
      rw [hL] at hz hz2 ⊢
      obtain ⟨D, hD⟩ : ∃ D, shd S (x :: xs) = D := ⟨_, rfl⟩
      rw [hD] at C2 ⊢
      clear hv h0 hr hp e1 e2 hx hD hL
      go_enter Tryd.func12, Tryd.ntmps12
      go_wp2_with fail
      refine (C1.out _).mono ?_
      rintro e w1 ⟨rfl, hb1⟩
      have y1 : w1.cell? ⟨w.heap.size, 1, none⟩ = some (.int .i64 S) := by rw [hb1.cell (by simp)]; exact cell_box w _ _ _ _ rfl
      have HB : Hid (Below w.heap.size w w1) := (box3_below w _ _ _).trans (hb1.mono (by simp))
      have hB1 : b < w1.heap.size := Nat.lt_of_lt_of_le hB HB.out.size
      have hbx : w.heap.size < w1.heap.size := by have := hb1.size; simp at this; omega
      have z0 : ∀ q : LaterS w1.heap.size w1, q.w.cell? ⟨b, o, none⟩ = some (.int .u8 x.k) := fun q => by rw [q.h.cell (p := ⟨b, _, none⟩) hB1, HB.out.cell (p := ⟨b, _, none⟩) hB]; exact x0
      have z1 : ∀ q : LaterS w1.heap.size w1, q.w.cell? ⟨b, o + 1, none⟩ = some (.bool x.b) := fun q => by rw [q.h.cell (p := ⟨b, _, none⟩) hB1, HB.out.cell (p := ⟨b, _, none⟩) hB]; exact x1
      have z2 : ∀ q : LaterS w1.heap.size w1, q.w.cell? ⟨b, o + 2, none⟩ = some (.int .i64 x.n) := fun q => by rw [q.h.cell (p := ⟨b, _, none⟩) hB1, HB.out.cell (p := ⟨b, _, none⟩) hB]; exact x2
      have z3 : ∀ q : LaterS w1.heap.size w1, q.w.cell? ⟨b, o + 3, none⟩ = some (.string x.s) := fun q => by rw [q.h.cell (p := ⟨b, _, none⟩) hB1, HB.out.cell (p := ⟨b, _, none⟩) hB]; exact x3
      have z4 : ∀ q : LaterS w1.heap.size w1, q.w.cell? ⟨w.heap.size, 1, none⟩ = some (.int .i64 S) := fun q => by rw [q.h.cell (p := ⟨w.heap.size, _, none⟩) hbx]; exact y1
      clear hb1 x0 x1 x2 x3
      go_wp2_with fail
      have inhL := laterInh
      refine wp_region_laterS mixedOnS (by kernel_rfl) ?_
      repeat (go_big_quiet_step ((go_at_call 29; exact calls_laterS (C2.out _))))
      refine wpQuiet_nil ?_
      intro w2 hw'
      obtain ⟨⟨wq, hwq⟩, hw''⟩ := hw'
      subst hw''
      have HB2 : Hid (Below w.heap.size w w2) := HB.out.trans (hwq.mono HB.out.size)
      clear hwq z0 z1 z2 z3 z4
      go_wp2_with fail
      go_ret2
      exact ⟨rfl, HB2.out⟩
    | nil =>
      rw [if_pos rfl]
      obtain ⟨p, c, rfl, _, _⟩ := hv.form
      clear hv h0 e1 e2 hx
      show Calls Tryd.prog 12 #[.agg #[.int .i64 N, .int .i64 S, .int .i64 R], .slice p 0 c] w _
      have e3 : shd S [] = 0 := rfl
      rw [e3]
      clear e3
      go_enter Tryd.func12, Tryd.ntmps12
      go_wp2_with fail
      refine (C1.out _).mono ?_
      rintro e w1 ⟨rfl, hb1⟩
      have HB : Hid (Below w.heap.size w w1) := (box3_below w _ _ _).trans (hb1.mono (by simp))
      clear hb1
      go_wp2_with fail
      go_ret2
      exact ⟨rfl, HB.out⟩
  · have e1 : shV N S R xs = 0 := by unfold shV; rw [if_neg h0]
    have e2 : shE N S R xs = 2 := by unfold shE; rw [if_neg h0]
    have C1 : Hid (∀ W, Calls Tryd.prog 19 #[.agg #[.int .i64 N, .int .i64 S, .int .i64 R]] W fun e w' => e = .returned (.int .i64 2) ∧ Below W.heap.size W w') := fun W => by rw [← layE_two h0]; exact refLay_any N S R W
    rw [e1, e2]
    obtain ⟨p, c, rfl, _, _⟩ := hv.form
    clear hv h0 e1 e2 hx
    go_enter Tryd.func12, Tryd.ntmps12
    go_wp2_with fail
    refine (C1.out _).mono ?_
    rintro e w1 ⟨rfl, hb1⟩
    have HB : Hid (Below w.heap.size w w1) := (box3_below w _ _ _).trans (hb1.mono (by simp))
    clear hb1
    go_wp2_with fail
    go_ret2
    exact ⟨rfl, HB.out⟩
end Go.Proofs.YthfoijnjgdeaaaaDoor
