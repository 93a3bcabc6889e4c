/- Texts, as the reference reads them step by step. No walk stands in this text. -/
import Derived.Test.YtimnnebmjapneaaDoorGh
namespace Go.Proofs.YtimnnebmjapneaaDoor
open Go.RowKit Go.Lib
set_option linter.unusedVariables false
theorem hex_letters : ∀ (n : Nat) (a : Int) (l : List Let), ∀ x ∈ l.take (hexGo n a l).2, x.1 ≠ 65533
  | 0, a, l, x, h => by simp [hexGo] at h
  | n + 1, a, [], x, h => by simp at h
  | n + 1, a, c :: l, x, h => by
    cases hv : hexV c.1 with
    | none => simp [hexGo, hv] at h
    | some d =>
      simp only [hexGo, hv, List.take_succ_cons, List.mem_cons] at h
      rcases h with rfl | h
      · intro e
        rw [e] at hv
        cases hv
      · exact hex_letters n _ l x h
theorem esc_letters (l : List Let) (p : Int × Nat) (h : escL l = some p) : ∀ x ∈ l.take p.2, x.1 ≠ 65533 := by
  cases l with
  | nil => simp [escL] at h
  | cons c m =>
    unfold escL at h
    simp only at h
    by_cases h117 : c.1 = 117
    · rw [if_pos h117] at h
      cases m with
      | nil => simp [hexEsc] at h
      | cons e m =>
        unfold hexEsc at h
        simp only at h
        by_cases h123 : e.1 ≠ 123
        · rw [if_pos h123] at h
          simp at h
        · rw [if_neg h123] at h
          have hl := hex_letters 6 0 m
          generalize hexGo 6 0 m = g at h hl
          cases hd : m.drop g.2 with
          | nil => rw [hd] at h; simp at h
          | cons d r =>
            rw [hd] at h
            simp only at h
            by_cases hc : g.2 = 0 ∨ d.1 ≠ 125 ∨ isRuneP g.1 = false
            · rw [if_pos hc] at h; simp at h
            · rw [if_neg hc] at h
              simp only [Option.map_some, Option.some.injEq] at h
              subst h
              intro x hx
              simp only [List.take_succ_cons, List.mem_cons] at hx
              have hk : g.2 < m.length := by
                have := congrArg List.length hd
                rw [List.length_drop] at this
                simp at this
                omega
              rw [List.take_succ_eq_append_getElem hk, List.mem_append, List.mem_singleton] at hx
              have hdk : m[g.2] = d := by
                rw [List.drop_eq_getElem_cons hk] at hd
                injection hd
              rw [hdk] at hx
              have h125 : d.1 = 125 := by
                by_cases e : d.1 = 125
                · exact e
                · exact absurd (Or.inr (Or.inl e)) hc
              have h123' : e.1 = 123 := by
                by_cases e' : e.1 = 123
                · exact e'
                · exact absurd e' h123
              rcases hx with rfl | rfl | hx | rfl
              · omega
              · omega
              · exact hl x hx
              · omega
    · rw [if_neg h117] at h
      intro x hx e
      have hc : c.1 = 34 ∨ c.1 = 92 ∨ c.1 = 110 ∨ c.1 = 116 := by
        by_cases a : c.1 = 34
        · exact .inl a
        by_cases a2 : c.1 = 92
        · exact .inr (.inl a2)
        by_cases a3 : c.1 = 110
        · exact .inr (.inr (.inl a3))
        by_cases a4 : c.1 = 116
        · exact .inr (.inr (.inr a4))
        simp [a, a2, a3, a4] at h
      have hp : p.2 = 1 := by
        rcases hc with a | a | a | a
        all_goals
          rw [a] at h
          simp at h
          rw [← h]
      rw [hp] at hx
      simp at hx
      subst hx
      omega
/-- Bad letters are 65533. -/
def BadIs (ls : List Let) : Prop := ∀ x ∈ ls, x.2 = true → x.1 = 65533
theorem bad_more (ls : List Let) (q j : Nat) (h : ∀ x ∈ (ls.drop q).take j, x.2 = false) : anyBad (ls.take (q + j)) = anyBad (ls.take q) := by
  rw [List.take_add]
  unfold anyBad
  rw [List.any_append, Bool.or_eq_left_iff_imp.2]
  intro hx
  obtain ⟨x, hx1, hx2⟩ := List.any_eq_true.1 hx
  rw [h x hx1] at hx2
  cases hx2
theorem bad_one (ls : List Let) (q : Nat) (h : q < ls.length) : anyBad (ls.take (q + 1)) = (anyBad (ls.take q) || ls[q].2) := by
  rw [List.take_succ_eq_append_getElem h]
  unfold anyBad
  rw [List.any_append]
  simp
theorem enc_app (a b : List Let) : enc (a ++ b) = enc a ++ enc b := by simp [enc]
/-- How far a text is read. -/
def QI (ls : List Let) (q : Nat) (acc : List Let) : Prop :=
  1 ≤ q ∧ textL (ls.length + 1) (ls.drop 1) = (textL (ls.length + 1) (ls.drop q)).map fun y => (anyBad (ls.take q) || y.1, enc acc ++ y.2.1, (q - 1) + y.2.2)
theorem QI_first (x : Let) (m : List Let) (h : x.2 = false) : QI (x :: m) 1 [] := by
  refine ⟨Nat.le_refl _, ?_⟩
  have : anyBad ((x :: m).take 1) = false := by simp [anyBad, h]
  rw [this]
  cases textL ((x :: m).length + 1) ((x :: m).drop 1) with
  | none => rfl
  | some y => simp [enc]
theorem fuel_at (ls : List Let) (q : Nat) (hq : 1 ≤ q) (h : q ≤ ls.length) : textL ls.length (ls.drop q) = textL (ls.length + 1) (ls.drop q) := textL_fuel _ _ _ (by rw [List.length_drop]; omega) (by rw [List.length_drop]; omega)
theorem QI_plain (ls : List Let) (q : Nat) (acc : List Let) (h : QI ls q acc) (hq : q < ls.length) (h34 : ls[q].1 ≠ 34) (h92 : ls[q].1 ≠ 92) : QI ls (q + 1) (acc ++ [ls[q]]) := by
  obtain ⟨h1, h2⟩ := h
  refine ⟨by omega, ?_⟩
  rw [h2, textL_plain ls.length ls q hq h34 h92, fuel_at ls (q + 1) (by omega) (by omega), bad_one ls q hq, enc_app]
  cases textL (ls.length + 1) (ls.drop (q + 1)) with
  | none => rfl
  | some y =>
    simp only [Option.map_some, Option.some.injEq, Prod.mk.injEq]
    refine ⟨by rw [Bool.or_assoc], by simp [enc], by omega⟩
theorem QI_esc (ls : List Let) (q : Nat) (acc : List Let) (h : QI ls q acc) (hq : q < ls.length) (h92 : ls[q].1 = 92) (p : Int × Nat) (he : escL (ls.drop (q + 1)) = some p) (hb : BadIs ls) : QI ls (q + 1 + p.2) (acc ++ [(p.1, false)]) := by
  obtain ⟨h1, h2⟩ := h
  have hle := escL_le he
  rw [List.length_drop] at hle
  refine ⟨by omega, ?_⟩
  have hbq : ls[q].2 = false := by
    cases e : ls[q].2 with
    | false => rfl
    | true => have := hb _ (List.getElem_mem hq) e; omega
  have hbs : anyBad (ls.take (q + 1 + p.2)) = anyBad (ls.take q) := by
    rw [bad_more ls (q + 1) p.2, bad_one ls q hq, hbq, Bool.or_false]
    intro x hx
    cases e : x.2 with
    | false => rfl
    | true => exact absurd (hb x (List.mem_of_mem_drop (List.mem_of_mem_take hx)) e) (esc_letters _ p he x hx)
  rw [h2, textL_esc ls.length ls q hq h92 p he, fuel_at ls (q + 1 + p.2) (by omega) (by omega), hbs, enc_app, hbq]
  cases textL (ls.length + 1) (ls.drop (q + 1 + p.2)) with
  | none => rfl
  | some y =>
    simp only [Option.map_some, Option.some.injEq, Prod.mk.injEq]
    refine ⟨by simp, by simp [enc], by omega⟩
theorem QI_stop (ls : List Let) (q : Nat) (acc : List Let) (h : QI ls q acc) (hq : q < ls.length) (h34 : ls[q].1 = 34) : textAns ls 0 = if anyBad (ls.take q) then ⟨noTok, 0, 9⟩ else if 256 < (enc acc).length then ⟨noTok, 0, 4⟩ else ⟨⟨5, enc acc, 0, 0⟩, ((q + 1 : Nat) : Int), 0⟩ := by
  obtain ⟨h1, h2⟩ := h
  unfold textAns
  rw [h2, textL_stop ls.length ls q hq h34]
  simp only [Option.map_some, Bool.or_false, List.append_nil, Nat.add_zero]
  rw [show 0 + 1 + (q - 1) + 1 = q + 1 by omega]
  rfl
theorem QI_none (ls : List Let) (q : Nat) (acc : List Let) (h : QI ls q acc) (hq : q < ls.length) (h92 : ls[q].1 = 92) (he : escL (ls.drop (q + 1)) = none) : textAns ls 0 = ⟨noTok, 0, 13⟩ := by
  obtain ⟨h1, h2⟩ := h
  unfold textAns
  rw [h2, textL_none ls.length ls q hq h92 he]
  rfl
theorem QI_end (ls : List Let) (q : Nat) (acc : List Let) (h : QI ls q acc) (hq : ls.length ≤ q) : textAns ls 0 = ⟨noTok, 0, 13⟩ := by
  obtain ⟨h1, h2⟩ := h
  unfold textAns
  rw [h2, List.drop_of_length_le hq]
  rfl
end Go.Proofs.YtimnnebmjapneaaDoor
