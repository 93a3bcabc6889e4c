/- What compareLists answers of two rows: value by value, the first two that are unlike tell, else the shorter one is below. -/
import Derived.Test.YthfoijnjgdeaaabDoorWhole
import Derived.Shelf.RegionOpenPlain
namespace Go.Proofs.YthfoijnjgdeaaabDoor
open Go.RowKit Go.Lib
set_option linter.unusedVariables false
attribute [local go_sem ↓] Go.wp_at_zero Go.wp_at_succ

/-- Two lists in order, by an order of their items. -/
def lexBy {α : Type} (cf : α → α → Int) : List α → List α → Int
  | [], [] => 0
  | [], _ :: _ => -1
  | _ :: _, [] => 1
  | x :: xs, y :: ys => if cf x y = 0 then lexBy cf xs ys else cf x y

/-- The cells of a row's values. -/
def RowIs (w : World) (blk off : Nat) (vs : List Val) : Prop :=
  ∀ (j : Nat) (h : j < vs.length), w.cell? ⟨blk, off + j * 4, none⟩ = some (.int .u8 vs[j].k) ∧ w.cell? ⟨blk, off + j * 4 + 1, none⟩ = some (.bool vs[j].b) ∧ w.cell? ⟨blk, off + j * 4 + 2, none⟩ = some (.int .i64 vs[j].n) ∧ w.cell? ⟨blk, off + j * 4 + 3, none⟩ = some (.string vs[j].s)

/-- What a callee may do to the world. -/
structure Mild (Q : World → World → Prop) : Prop where
  refl : ∀ w, Q w w
  trans : ∀ a b c, Q a b → Q b c → Q a c
  drewN : ∀ w n, Q w (w.drewN n)
  below : ∀ a b, Q a b → Below a.heap.size a b

theorem lexBy_at {α : Type} (cf : α → α → Int) (xs ys : List α) (k : Nat) (hx : k < xs.length) (hy : k < ys.length) :
    lexBy cf (xs.drop k) (ys.drop k) = if cf xs[k] ys[k] = 0 then lexBy cf (xs.drop (k + 1)) (ys.drop (k + 1)) else cf xs[k] ys[k] := by
  rw [List.drop_eq_getElem_cons hx, List.drop_eq_getElem_cons hy]; rfl
theorem lexBy_end {α : Type} (cf : α → α → Int) (xs ys : List α) (k : Nat) (h : ¬ (k < xs.length ∧ k < ys.length)) (h1 : k ≤ xs.length) (h2 : k ≤ ys.length) :
    lexBy cf (xs.drop k) (ys.drop k) = cmpI (xs.length : Int) (ys.length : Int) := by
  unfold cmpI
  rcases Nat.lt_trichotomy xs.length ys.length with h3 | h3 | h3
  · have e : xs.drop k = [] := List.drop_of_length_le (by omega)
    rw [e, List.drop_eq_getElem_cons (by omega), if_pos (by omega)]; rfl
  · have e : xs.drop k = [] := List.drop_of_length_le (by omega)
    have e' : ys.drop k = [] := List.drop_of_length_le (by omega)
    rw [e, e', if_neg (by omega), if_neg (by omega)]; rfl
  · have e : ys.drop k = [] := List.drop_of_length_le (by omega)
    rw [e, List.drop_eq_getElem_cons (by omega), if_neg (by omega), if_pos (by omega)]; rfl

/-- A row in memory: no values, wherever; or its values' cells. -/
def RowV (w : World) (v : Value) (vs : List Val) : Prop :=
  vs.length ≤ 9223372036854775807 ∧ ((∃ p cap, v = .slice p 0 cap ∧ vs = []) ∨ ∃ blk off cap, v = .slice (some ⟨blk, off, none⟩) vs.length cap ∧ RowIs w blk off vs ∧ blk < w.heap.size)
theorem RowIs.below {w W : World} {blk off : Nat} {vs : List Val} (h : RowIs w blk off vs) (hb : blk < w.heap.size) (hw : Below w.heap.size w W) : RowIs W blk off vs := by
  intro j hj
  obtain ⟨a, b, c, d⟩ := h j hj
  exact ⟨by rw [hw.cell (p := ⟨blk, _, none⟩) hb]; exact a, by rw [hw.cell (p := ⟨blk, _, none⟩) hb]; exact b, by rw [hw.cell (p := ⟨blk, _, none⟩) hb]; exact c, by rw [hw.cell (p := ⟨blk, _, none⟩) hb]; exact d⟩
theorem RowV.below {w W : World} {v : Value} {vs : List Val} (h : RowV w v vs) (hw : Below w.heap.size w W) : RowV W v vs := by
  obtain ⟨hl, h | ⟨blk, off, cap, rfl, hr, hb⟩⟩ := h
  · exact ⟨hl, .inl h⟩
  · exact ⟨hl, .inr ⟨blk, off, cap, rfl, hr.below hb hw, Nat.lt_of_lt_of_le hb hw.size⟩⟩
theorem lexBy_nil_left {α : Type} (cf : α → α → Int) (ys : List α) : lexBy cf [] ys = cmpI ((([] : List α).length : Nat) : Int) (ys.length : Int) := by
  have := lexBy_end cf [] ys 0 (by simp) (Nat.zero_le _) (Nat.zero_le _)
  simpa using this
theorem lexBy_nil_right {α : Type} (cf : α → α → Int) (xs : List α) : lexBy cf xs [] = cmpI (xs.length : Int) ((([] : List α).length : Nat) : Int) := by
  have := lexBy_end cf xs [] 0 (by simp) (Nat.zero_le _) (Nat.zero_le _)
  simpa using this
/-- What compareWhole may do: draws, and new blocks. -/
def Grew (w w' : World) : Prop := ∃ q os, w' = Go.Sort.grow (w.drewN q) os
theorem Grew.mild : Mild Grew where
  refl w := ⟨0, #[], by simp [Go.Sort.grow, World.drewN]⟩
  trans a b c := by
    rintro ⟨q, os, rfl⟩ ⟨q', os', rfl⟩
    exact ⟨q + q', os ++ os', by
      show Go.Sort.grow ((Go.Sort.grow (a.drewN q) os).drewN q') os' = _
      rw [show (Go.Sort.grow (a.drewN q) os).drewN q' = Go.Sort.grow (a.drewN (q + q')) os by simp only [Go.Sort.grow, World.drewN, Nat.add_assoc], Go.Sort.grow_grow]⟩
  drewN w n := ⟨n, #[], (Go.Sort.grow_empty _).symm⟩
  below a b := by
    rintro ⟨q, os, rfl⟩
    refine ⟨rfl, rfl, rfl, by simp, fun k hk => ?_⟩
    exact Go.Sort.heap_grow_old (a.drewN q) os hk

end Go.Proofs.YthfoijnjgdeaaabDoor
