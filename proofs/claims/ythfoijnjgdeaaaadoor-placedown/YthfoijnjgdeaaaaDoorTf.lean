/- What CheckCols and CheckRow answer, of any columns, any row. -/
import Derived.Test.YthfoijnjgdeaaaaDoorTe
namespace Go.Proofs.YthfoijnjgdeaaaaDoor
open Go.RowKit Go.Lib
set_option linter.unusedVariables false

/-- A row, whatever its slice is. -/
def RowA (w : World) (v : Value) (xs : List Val) : Prop :=
  ∃ p c, v = .slice p xs.length c ∧ xs.length ≤ 9223372036854775807 ∧ (∀ x ∈ xs, x.s.size ≤ 9223372036854775807) ∧ (0 < xs.length → ∃ b o, p = some ⟨b, o, none⟩ ∧ RowIs w b o xs ∧ b < w.heap.size)
/-- Columns, whatever their slice is. -/
def ColA (w : World) (v : Value) (cs : List Col) : Prop :=
  ∃ p c, v = .slice p cs.length c ∧ cs.length ≤ c ∧ cs.length ≤ 9223372036854775807 ∧ (∀ x ∈ cs, x.name.size ≤ 9223372036854775807) ∧ (0 < cs.length → ∃ b o, p = some ⟨b, o, none⟩ ∧ ColsIs w b o cs ∧ b < w.heap.size)
theorem RowA.below {w W : World} {v : Value} {xs : List Val} (h : RowA w v xs) (hb : Below w.heap.size w W) : RowA W v xs := by
  obtain ⟨p, c, rfl, h1, h2, h3⟩ := h
  refine ⟨p, c, rfl, h1, h2, fun h0 => ?_⟩
  obtain ⟨b, o, rfl, hr, hlt⟩ := h3 h0
  refine ⟨b, o, rfl, fun j hj => ?_, Nat.lt_of_lt_of_le hlt hb.size⟩
  rw [hb.cell hlt, hb.cell hlt, hb.cell hlt, hb.cell hlt]
  exact hr j hj
theorem ColA.below {w W : World} {v : Value} {cs : List Col} (h : ColA w v cs) (hb : Below w.heap.size w W) : ColA W v cs := by
  obtain ⟨p, c, rfl, h1, h2, h3, h4⟩ := h
  refine ⟨p, c, rfl, h1, h2, h3, fun h0 => ?_⟩
  obtain ⟨b, o, rfl, hr, hlt⟩ := h4 h0
  exact ⟨b, o, rfl, hr.below hb hlt, Nat.lt_of_lt_of_le hlt hb.size⟩
theorem cols_all {w : World} {v : Value} {cs : List Col} (h : ColA w v cs) (hT : Lib.Utf8Tabs 0 1 w) :
    Calls Tryd.prog 49 #[v] w fun e w' => e = .returned (.int .i64 (colsV cs)) ∧ Below w.heap.size w w' := by
  obtain ⟨p, c, rfl, hc, hl, hs, hx⟩ := h
  unfold colsV
  by_cases h0 : cs.length = 0
  · rw [if_pos (.inl h0), h0]
    exact (checkCols_none p c w).mono fun e w' ⟨he, hw⟩ => ⟨he, by rw [hw]; exact Below.refl _ _⟩
  by_cases h8 : 8 < cs.length
  · rw [if_pos (.inr h8)]
    exact (checkCols_many p _ c w h8 hl).mono fun e w' ⟨he, hw⟩ => ⟨he, by rw [hw]; exact Below.refl _ _⟩
  rw [if_neg (by omega)]
  obtain ⟨b, o, rfl, hr, hlt⟩ := hx (by omega)
  exact checkCols_core b o c cs w hr hlt h0 h8 hc hs hT _ (by show _ = _; rfl)
theorem colsRef_all {w : World} {v : Value} {cs : List Col} (h : ColA w v cs) :
    Calls Tryd.prog 53 #[v] w fun e w' => e = .returned (.int .i64 (colsV cs)) ∧ Below w.heap.size w w' := by
  obtain ⟨p, c, rfl, hc, hl, hs, hx⟩ := h
  unfold colsV
  by_cases h0 : cs.length = 0
  · rw [if_pos (.inl h0), h0]
    exact (colsRef_none p c w).mono fun e w' ⟨he, hw⟩ => ⟨he, by rw [hw]; exact Below.refl _ _⟩
  by_cases h8 : 8 < cs.length
  · rw [if_pos (.inr h8)]
    exact (colsRef_many p _ c w h8 hl).mono fun e w' ⟨he, hw⟩ => ⟨he, by rw [hw]; exact Below.refl _ _⟩
  rw [if_neg (by omega)]
  obtain ⟨b, o, rfl, hr, hlt⟩ := hx (by omega)
  exact colsRef_core b o c cs w hr hlt h0 h8 hc _ (by show _ = _; rfl)
/-- Why a row is none of columns. -/
def rowV (xs : List Val) (cs : List Col) : Int := if xs.length = cs.length then chkRow xs (cs.map Col.k) else 3
theorem kinds_of {w : World} {b o : Nat} {cs : List Col} (h : ColsIs w b o cs) : ColIs w b o (cs.map Col.k) := by
  intro j hj
  rw [List.length_map] at hj
  rw [List.getElem_map]
  exact (h j hj).2
theorem row_all {w : World} {u v : Value} {xs : List Val} {cs : List Col} (hu : RowA w u xs) (hv : ColA w v cs) (hT : Lib.Utf8Tabs 0 1 w) :
    Calls Tryd.prog 50 #[u, v] w fun e w' => e = .returned (.int .i64 (rowV xs cs)) ∧ Below w.heap.size w w' := by
  obtain ⟨p, c, rfl, hl, hs, hx⟩ := hu
  obtain ⟨q, d, rfl, hc, hm, ht, hy⟩ := hv
  unfold rowV
  by_cases h : xs.length = cs.length
  · rw [if_pos h]
    by_cases h0 : 0 < xs.length
    · obtain ⟨b1, o1, rfl, hr, hlt⟩ := hx h0
      obtain ⟨b2, o2, rfl, hk, hlt2⟩ := hy (by omega)
      rw [← h]
      exact checkRow_some b1 o1 c b2 o2 d xs (cs.map Col.k) w (by rw [List.length_map]; exact h.symm) hr (kinds_of hk) hl hlt hlt2 hs hT
    · have e1 : xs = [] := List.eq_nil_of_length_eq_zero (by omega)
      have e2 : cs = [] := List.eq_nil_of_length_eq_zero (by omega)
      subst e1 e2
      exact (checkRow_zero p q c d w).mono fun e w' ⟨he, hw⟩ => ⟨he, by rw [hw]; exact Below.refl _ _⟩
  · rw [if_neg h]
    exact (checkRow_many p q _ _ c d w h hl hm).mono fun e w' ⟨he, hw⟩ => ⟨he, by rw [hw]; exact Below.refl _ _⟩
theorem rowRef_all {w : World} {u v : Value} {xs : List Val} {cs : List Col} (hu : RowA w u xs) (hv : ColA w v cs) :
    Calls Tryd.prog 54 #[u, v] w fun e w' => e = .returned (.int .i64 (rowV xs cs)) ∧ Below w.heap.size w w' := by
  obtain ⟨p, c, rfl, hl, hs, hx⟩ := hu
  obtain ⟨q, d, rfl, hc, hm, ht, hy⟩ := hv
  unfold rowV
  by_cases h : xs.length = cs.length
  · rw [if_pos h]
    by_cases h0 : 0 < xs.length
    · obtain ⟨b1, o1, rfl, hr, hlt⟩ := hx h0
      obtain ⟨b2, o2, rfl, hk, hlt2⟩ := hy (by omega)
      rw [← h]
      exact rowRef_some b1 o1 c b2 o2 d xs (cs.map Col.k) w (by rw [List.length_map]; exact h.symm) hr (kinds_of hk) hl hlt hlt2
    · have e1 : xs = [] := List.eq_nil_of_length_eq_zero (by omega)
      have e2 : cs = [] := List.eq_nil_of_length_eq_zero (by omega)
      subst e1 e2
      exact (rowRef_zero p q c d w).mono fun e w' ⟨he, hw⟩ => ⟨he, by rw [hw]; exact Below.refl _ _⟩
  · rw [if_neg h]
    exact (rowRef_many p q _ _ c d w h hl hm).mono fun e w' ⟨he, hw⟩ => ⟨he, by rw [hw]; exact Below.refl _ _⟩
end Go.Proofs.YthfoijnjgdeaaaaDoor
