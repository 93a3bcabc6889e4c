/- Layouts: what isWithin and place.Check answer. -/
import Derived.Test.YthfoijnjgdeaaabDoorBagC
import Derived.Test.YthfoijnjgdeaaabDoorCRows
namespace Go.Proofs.YthfoijnjgdeaaabDoor
open Go.Shelf Go.RowKit Go.Lib Go.Sort
set_option linter.unusedVariables false
set_option linter.unusedSimpArgs false
attribute [local go_sem ↓] Go.wp_at_zero Go.wp_at_succ
/-- A world behind another one, all of whose blocks are as they were. -/
structure LaterS (B : Nat) (W0 : World) where
  w : World
  h : Below B W0 w
abbrev laterInh (w : World) : Inhabited (LaterS w.heap.size w) := ⟨⟨w, Below.refl _ _⟩⟩
theorem wp_region_laterS {P : Program} {id : Nat} {Q : Exit → Act → World → Prop} {a : Act} {w : World} {l : List Oper} (hm : P.follows .mixedOrders = true) (hB : Region.lexB .any l.toArray = true)
    (h : wpQuiet P l.toArray (fun w' => ∃ p : LaterS w.heap.size w, w' = p.w) (fun a' => ∀ w', (∃ p : LaterS w.heap.size w, w' = p.w) → Q .normal a' w') l a) : (Code.region id l.toArray true).wp P Q a w :=
  wp_region_quiet (C := fun w' => ∃ p : LaterS w.heap.size w, w' = p.w) hm hB ⟨⟨w.drew, (Below.refl _ _).drew⟩, rfl⟩ (by simpa using h)
theorem calls_laterS {P : Program} {f : FuncId} {args : Array Value} {W0 : World} {p : LaterS W0.heap.size W0} {v : Value}
    (h : Calls P f args p.w fun e w' => e = .returned v ∧ Below p.w.heap.size p.w w') : Calls P f args p.w fun e w'' => e = .returned v ∧ ∃ p' : LaterS W0.heap.size W0, w'' = p'.w :=
  h.mono fun _ _ ⟨he, hb⟩ => ⟨he, ⟨_, p.h.trans (hb.mono p.h.size)⟩, rfl⟩
theorem mixedOnS : Tryd.prog.follows .mixedOrders = true := by kernel_rfl
set_option maxRecDepth 100000 in
theorem within_any (n a b : Int) (w : World) : Calls Tryd.prog 16 #[.int .i64 n, .int .i64 a, .int .i64 b] w fun e w' => e = .returned (.bool (decide (a ≤ n) && decide (n ≤ b))) ∧ w' = w := by
  by_cases h1 : a ≤ n
  · by_cases h2 : n ≤ b
    · rw [decide_eq_true h1, decide_eq_true h2]
      go_enter Tryd.func16, Tryd.ntmps16
      go_wp2
      go_ret
      exact ⟨rfl, rfl⟩
    · rw [decide_eq_true h1, decide_eq_false h2]
      go_enter Tryd.func16, Tryd.ntmps16
      go_wp2
      go_ret
      exact ⟨rfl, rfl⟩
  · rw [decide_eq_false h1, Bool.false_and]
    go_enter Tryd.func16, Tryd.ntmps16
    go_wp2
    go_ret
    exact ⟨rfl, rfl⟩
/-- Whether a layout is right. -/
def LayOk (N S R : Int) : Prop := 2 ≤ N ∧ N ≤ 8 ∧ 1 ≤ S ∧ S ≤ 8 ∧ 1 ≤ R ∧ R ≤ N - 1
def layE (N S R : Int) : Int := if 2 ≤ N ∧ N ≤ 8 ∧ 1 ≤ S ∧ S ≤ 8 ∧ 1 ≤ R ∧ R ≤ N - 1 then 0 else 2
theorem layE_zero {N S R : Int} : layE N S R = 0 ↔ LayOk N S R := by
  unfold layE LayOk
  constructor
  · intro h; by_cases hc : 2 ≤ N ∧ N ≤ 8 ∧ 1 ≤ S ∧ S ≤ 8 ∧ 1 ≤ R ∧ R ≤ N - 1
    · exact hc
    · rw [if_neg hc] at h; cases h
  · intro h; rw [if_pos h]
set_option maxRecDepth 100000 in
set_option maxHeartbeats 2000000 in
theorem layCheck_any (N S R : Int) (w : World) : Calls Tryd.prog 9 #[.agg #[.int .i64 N, .int .i64 S, .int .i64 R]] w fun e w' => e = .returned (.int .i64 (layE N S R)) ∧ Below w.heap.size w w' := by
  have C1 : Hid (∀ n a b W, Calls Tryd.prog 16 #[.int .i64 n, .int .i64 a, .int .i64 b] W fun e w' => e = .returned (.bool (decide (a ≤ n) && decide (n ≤ b))) ∧ w' = W) := within_any
  by_cases h1 : 2 ≤ N ∧ N ≤ 8
  · have d1 : (decide ((2 : Int) ≤ N) && decide (N ≤ 8)) = true := by simp [h1.1, h1.2]
    by_cases h2 : 1 ≤ S ∧ S ≤ 8
    · have d2 : (decide ((1 : Int) ≤ S) && decide (S ≤ 8)) = true := by simp [h2.1, h2.2]
      have hw : IntKind.i64.wrap (N - 1) = N - 1 := by rw [IntKind.wrap_i64]; omega
      by_cases h3 : 1 ≤ R ∧ R ≤ N - 1
      · have d3 : (decide ((1 : Int) ≤ R) && decide (R ≤ N - 1)) = true := by simp [h3.1, h3.2]
        have e : layE N S R = 0 := by unfold layE; rw [if_pos (by omega)]
        rw [e]
        clear e h1 h2 h3
        go_enter Tryd.func9, Tryd.ntmps9
        go_wp2_with fail
        refine (C1.out _ _ _ _).mono ?_
        rintro e w1 ⟨rfl, rfl⟩
        rw [d1]
        go_wp2_with fail
        refine (C1.out _ _ _ _).mono ?_
        rintro e w1 ⟨rfl, rfl⟩
        rw [d2]
        go_wp2_with fail
        refine (C1.out _ _ _ _).mono ?_
        rintro e w1 ⟨rfl, rfl⟩
        rw [d3]
        go_wp2_with fail
        go_ret
        exact ⟨rfl, (Below.refl _ _).alloc (Nat.le_refl _) _⟩
      · have d3 : (decide ((1 : Int) ≤ R) && decide (R ≤ N - 1)) = false := by
          cases hd : (decide ((1 : Int) ≤ R) && decide (R ≤ N - 1))
          · rfl
          · simp at hd; exact absurd hd h3
        have e : layE N S R = 2 := by unfold layE; rw [if_neg (by omega)]
        rw [e]
        clear e h1 h2 h3
        go_enter Tryd.func9, Tryd.ntmps9
        go_wp2_with fail
        refine (C1.out _ _ _ _).mono ?_
        rintro e w1 ⟨rfl, rfl⟩
        rw [d1]
        go_wp2_with fail
        refine (C1.out _ _ _ _).mono ?_
        rintro e w1 ⟨rfl, rfl⟩
        rw [d2]
        go_wp2_with fail
        refine (C1.out _ _ _ _).mono ?_
        rintro e w1 ⟨rfl, rfl⟩
        rw [d3]
        go_wp2_with fail
        go_ret
        exact ⟨rfl, (Below.refl _ _).alloc (Nat.le_refl _) _⟩
    · have d2 : (decide ((1 : Int) ≤ S) && decide (S ≤ 8)) = false := by
        cases hd : (decide ((1 : Int) ≤ S) && decide (S ≤ 8))
        · rfl
        · simp at hd; exact absurd hd h2
      have e : layE N S R = 2 := by unfold layE; rw [if_neg (by omega)]
      rw [e]
      clear e h1 h2
      go_enter Tryd.func9, Tryd.ntmps9
      go_wp2_with fail
      refine (C1.out _ _ _ _).mono ?_
      rintro e w1 ⟨rfl, rfl⟩
      rw [d1]
      go_wp2_with fail
      refine (C1.out _ _ _ _).mono ?_
      rintro e w1 ⟨rfl, rfl⟩
      rw [d2]
      go_wp2_with fail
      go_ret
      exact ⟨rfl, (Below.refl _ _).alloc (Nat.le_refl _) _⟩
  · have d1 : (decide ((2 : Int) ≤ N) && decide (N ≤ 8)) = false := by
      cases hd : (decide ((2 : Int) ≤ N) && decide (N ≤ 8))
      · rfl
      · simp at hd; exact absurd hd h1
    have e : layE N S R = 2 := by unfold layE; rw [if_neg (by omega)]
    rw [e]
    clear e h1
    go_enter Tryd.func9, Tryd.ntmps9
    go_wp2_with fail
    refine (C1.out _ _ _ _).mono ?_
    rintro e w1 ⟨rfl, rfl⟩
    rw [d1]
    go_wp2_with fail
    go_ret
    exact ⟨rfl, (Below.refl _ _).alloc (Nat.le_refl _) _⟩
end Go.Proofs.YthfoijnjgdeaaabDoor
