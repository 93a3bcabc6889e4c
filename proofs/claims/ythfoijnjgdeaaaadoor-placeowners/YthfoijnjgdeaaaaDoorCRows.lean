/- What CompareRows answers: the order of rows. -/
import Derived.Test.YthfoijnjgdeaaaaDoorTC
namespace Go.Proofs.YthfoijnjgdeaaaaDoor
open Go.RowKit Go.Lib
set_option linter.unusedVariables false

/-- All that was there is as it was. -/
def Bel (w w' : World) : Prop := Below w.heap.size w w'
theorem Bel.mild : Mild Bel where
  refl w := Below.refl _ _
  trans a b c h k := Below.trans h (Below.mono k (Below.size h))
  drewN w n := below_drewN (Below.refl _ _) n
  below a b h := h
theorem cmpL_lex : ∀ a b : List Int, cmpL a b = lexBy cmpI a b
  | [], [] => rfl
  | [], _ :: _ => rfl
  | _ :: _, [] => rfl
  | x :: a, y :: b => by
    have ih := cmpL_lex a b
    unfold cmpL lexBy
    by_cases h : x = y
    · rw [if_pos h, if_pos ((tc_int.zero x y).2 h), ih]
    · rw [if_neg h, if_neg (fun e => h ((tc_int.zero x y).1 e))]
theorem tc_runes : TC cmpL := by
  have := tc_int.list
  rw [show lexBy cmpI = cmpL from funext fun a => funext fun b => (cmpL_lex a b).symm] at this
  exact this
/-- An order by numbers that need not tell all apart. -/
structure PC {α : Type} (cf : α → α → Int) : Prop where
  anti : ∀ x y, cf y x = - cf x y
  trans : ∀ x y z, cf x y ≤ 0 → cf y z ≤ 0 → cf x z ≤ 0 ∧ (cf x z = 0 → cf x y = 0 ∧ cf y z = 0)
  low : ∀ x y, -1 ≤ cf x y
theorem TC.pc {α : Type} {cf : α → α → Int} (h : TC cf) (hl : ∀ x y, -1 ≤ cf x y) : PC cf where
  anti := h.anti
  low := hl
  trans x y z h1 h2 := by
    by_cases e1 : cf x y = 0
    · have := (h.zero x y).1 e1
      subst this
      exact ⟨h2, fun e => ⟨e1, e⟩⟩
    by_cases e2 : cf y z = 0
    · have := (h.zero y z).1 e2
      subst this
      exact ⟨h1, fun e => ⟨e, e2⟩⟩
    have := h.trans x y z (by omega) (by omega)
    exact ⟨by omega, fun e => by omega⟩
theorem cmpI_low (x y : Int) : -1 ≤ cmpI x y := by unfold cmpI; split <;> (try split) <;> omega
theorem cmpB_low (x y : Bool) : -1 ≤ cmpB x y := by cases x <;> cases y <;> decide
theorem cmpL_low : ∀ a b : List Int, -1 ≤ cmpL a b
  | [], [] => by decide
  | [], _ :: _ => by simp [cmpL]
  | _ :: _, [] => by simp [cmpL]
  | x :: a, y :: b => by
    have := cmpL_low a b
    unfold cmpL
    split
    · exact this
    · exact cmpI_low x y
theorem pc_val : PC cmpV where
  low x y := by
    unfold cmpV
    split
    · split
      · exact cmpB_low _ _
      split
      · exact cmpI_low _ _
      split
      · exact cmpL_low _ _
      · decide
    · exact cmpI_low _ _
  anti x y := by
    unfold cmpV
    by_cases h : x.k = y.k
    · rw [if_pos h, if_pos h.symm, ← h]
      split
      · exact tc_bool.anti _ _
      split
      · exact tc_int.anti _ _
      split
      · exact tc_runes.anti _ _
      · rfl
    · rw [if_neg h, if_neg (fun e => h e.symm)]
      exact tc_int.anti _ _
  trans x y z := by
    unfold cmpV
    by_cases h1 : x.k = y.k
    · by_cases h2 : y.k = z.k
      · rw [if_pos h1, if_pos h2, if_pos (h1.trans h2), ← h1]
        split
        · exact (tc_bool.pc cmpB_low).trans _ _ _
        split
        · exact (tc_int.pc cmpI_low).trans _ _ _
        split
        · exact (tc_runes.pc cmpL_low).trans _ _ _
        · intro _ _; exact ⟨by decide, fun _ => ⟨rfl, rfl⟩⟩
      · have hxz : ¬ x.k = z.k := fun e => h2 (h1.symm.trans e)
        rw [if_pos h1, if_neg h2, if_neg hxz, h1]
        intro _ h
        have hz := fun e => h2 ((tc_int.zero _ _).1 e)
        exact ⟨h, fun e => absurd e hz⟩
    · by_cases h2 : y.k = z.k
      · have hxz : ¬ x.k = z.k := fun e => h1 (e.trans h2.symm)
        rw [if_neg h1, if_pos h2, if_neg hxz, ← h2]
        intro h _
        have hz := fun e => h1 ((tc_int.zero _ _).1 e)
        exact ⟨h, fun e => absurd e hz⟩
      · rw [if_neg h1, if_neg h2]
        intro a b
        have z1 : cmpI x.k y.k ≠ 0 := fun e => h1 ((tc_int.zero _ _).1 e)
        have z2 : cmpI y.k z.k ≠ 0 := fun e => h2 ((tc_int.zero _ _).1 e)
        have t := tc_int.trans x.k y.k z.k (by omega) (by omega)
        have hne : x.k ≠ z.k := fun e => by rw [e, (tc_int.zero _ _).2 rfl] at t; omega
        rw [if_neg hne]
        exact ⟨by omega, fun e => by omega⟩
end Go.Proofs.YthfoijnjgdeaaaaDoor
