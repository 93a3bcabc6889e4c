/- What the reference's order, runes and Runes answer. -/
import Derived.Test.YthfoijnjgdeaaaaDoorCmp
import Derived.Lib.OthersKept
import Derived.WalkKit
import Derived.WalkSpells
import Derived.Maps.AppendAt
namespace Go.Proofs.YthfoijnjgdeaaaaDoor
open Go.RowKit Go.Lib
set_option linter.unusedVariables false

/-- What order answers. -/
def ordB (l m : Bool) : Int := if l then -1 else if m then 1 else 0
theorem ordB_cmpI (a b : Int) : ordB (decide (a < b)) (decide (b < a)) = cmpI a b := by
  unfold ordB cmpI
  by_cases h : a < b <;> by_cases h' : b < a <;> simp [h, h']
theorem ordB_cmpB (a b : Bool) : ordB (!a && b) (a && !b) = cmpB a b := by cases a <;> cases b <;> rfl

/-- The runes' cells. -/
def flatR (ls : List Int) : List Value := ls.map fun x => .int .i32 x
theorem flatR_get (ls : List Int) (j : Nat) (h : j < ls.length) : (flatR ls)[j]? = some (.int .i32 ls[j]) := by
  simp [flatR, h]
theorem info21 : (Tryd.prog.info? 21).map (fun i => (i.zero, i.size, i.bytes)) = some (some (.int .i32 0), 1, 4) := by kernel_rfl
theorem ownsRow_iterAt {w : World} {base : Nat} {e : TypeId} {size : Nat} {v : Value} {n : Nat} {xs : List Value} (h : w.ownsRow base e size v n xs) {k : Nat} (hk : k < base) (s : ByteArray) (p : Nat) : (w.iterAt k s p).ownsRow base e size v n xs := by
  obtain ⟨h1, h2⟩ := h
  refine ⟨h1, ?_⟩
  rcases h2 with h2 | ⟨g, cap, cur, a, b, c, d⟩
  · exact .inl h2
  · exact .inr ⟨g, cap, cur, a, b, by rw [Lib.iterAt_other _ _ _ _ _ (by omega)]; exact c, d⟩
theorem cell_one_new (w : World) (a : Value) (t : TypeId) : ∀ j u, [a][j]? = some u → (w.alloc (.cells #[a] t)).cell? ((⟨w.heap.size, 0, none⟩ : Addr).add j) = some u := by
  intro j u hj
  match j, hj with
  | 0, hj => simp at hj; subst hj; simp [Addr.add]
  | j + 1, hj => simp at hj
theorem lt_of_block {w : World} {k : Nat} {o : Obj} (h : w.heap[k]? = some o) : k < w.heap.size := (Array.getElem?_eq_some_iff.1 h).1
/-- A slice of runes. -/
def RunesV (w : World) (v : Value) (ls : List Int) : Prop :=
  (v = .slice none 0 0 ∧ ls = []) ∨ ∃ g cap, v = .slice (some ⟨g, 0, none⟩) ls.length cap ∧ (∀ j (h : j < ls.length), w.cell? ⟨g, j, none⟩ = some (.int .i32 ls[j])) ∧ g < w.heap.size ∧ ls.length ≤ cap ∧ cap ≤ maxLen
theorem runesV_own {w : World} {base : Nat} {v : Value} {ls : List Int} (h : w.ownsRow base 21 1 v ls.length (flatR ls)) : RunesV w v ls := by
  obtain ⟨h1, ⟨rfl, h2⟩ | ⟨g, cap, cur, rfl, hb, hg, hc1, hc2, hc3, hc4⟩⟩ := h
  · exact .inl ⟨rfl, List.eq_nil_of_length_eq_zero h2⟩
  · refine .inr ⟨g, cap, rfl, ?_, (Array.getElem?_eq_some_iff.1 hg).1, hc1, hc2⟩
    intro j hj
    have hw : w.ownsRow base 21 1 (.slice (some ⟨g, 0, none⟩) ls.length cap) ls.length (flatR ls) := ⟨h1, .inr ⟨g, cap, cur, rfl, hb, hg, hc1, hc2, hc3, hc4⟩⟩
    rw [hw.cellAt j (by omega)]
    exact flatR_get ls j hj
theorem runesV_below {w w' : World} {n : Nat} {v : Value} {ls : List Int} (h : RunesV w v ls) (hb : Below n w w') (hn : w.heap.size ≤ n) : RunesV w' v ls := by
  rcases h with h | ⟨g, cap, rfl, h1, h2, h3, h4⟩
  · exact .inl h
  · exact .inr ⟨g, cap, rfl, fun j hj => by rw [hb.cell (by simp; omega)]; exact h1 j hj, by have := hb.size; omega, h3, h4⟩

theorem runesOf_le (s : ByteArray) : (runesOf s).length ≤ s.size := by
  have : ∀ f pos, (runesFrom s f pos).length ≤ f := by
    intro f
    induction f with
    | zero => intro pos; simp [runesFrom]
    | succ f ih =>
      intro pos
      unfold runesFrom
      split
      · have := ih (pos + (Utf8.decode s pos).2)
        simp only [List.length_cons]
        omega
      · simp
  exact this s.size 0
end Go.Proofs.YthfoijnjgdeaaaaDoor
