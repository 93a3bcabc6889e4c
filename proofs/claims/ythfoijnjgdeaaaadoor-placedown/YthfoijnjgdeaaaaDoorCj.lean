/- The law PlaceDown: lists of booleans. -/
import Derived.Test.YthfoijnjgdeaaaaDoorCi
namespace Go.Proofs.YthfoijnjgdeaaaaDoor
open Go.Shelf Go.RowKit Go.Lib Go.Sort
set_option linter.unusedVariables false
set_option linter.unusedSimpArgs false
attribute [local go_sem ↓] Go.wp_at_zero Go.wp_at_succ
/-- append([]bool{}, l...): booleans of their own memory. -/
theorem bools_new (W : World) (u : Value) (bs : List Bool) (hb : BoolsL W u bs) (hn : bs.length ≤ 140737488351232) :
    ∃ g cap W', (Builtin.append_ #[50, 50] 50 #[.slice (some ⟨W.heap.size, 0, none⟩) 0 0, u]).run Tryd.prog (W.alloc (.cells #[] 4)) = .ok (.slice (some ⟨g, 0, none⟩) bs.length cap) W' ∧ W'.ownsRow W.heap.size 4 1 (.slice (some ⟨g, 0, none⟩) bs.length cap) bs.length (bs.map fun b => .bool b) ∧ Below W.heap.size W W' := by
  obtain ⟨i0, hi, hz0, hz1, hz2⟩ := info4
  have hown : (W.alloc (.cells #[] 4)).ownsRow W.heap.size 4 1 (.slice (some ⟨W.heap.size, 0, none⟩) 0 0) 0 [] := ⟨rfl, .inr ⟨W.heap.size, 0, #[], rfl, Nat.le_refl _, heap_alloc_new W _, Nat.le_refl _, Nat.zero_le _, rfl, rfl⟩⟩
  have hbA : Below W.heap.size W (W.alloc (.cells #[] 4)) := (Below.refl _ _).alloc (Nat.le_refl _) _
  obtain ⟨p, c, rfl, hl, hp⟩ := hb
  by_cases h0 : 0 < bs.length
  · obtain ⟨b, o, rfl, hlt, hc⟩ := hp h0
    obtain ⟨v', W', e, h2, h3, h4, h5⟩ := run_append_own_at (P := Tryd.prog) (W.alloc (.cells #[] 4)) W.heap.size 50 50 4 i0 _ 1 1 Tryd.underlying50 hi hz0 hz1 hz2 rfl (by omega) _ 0 [] hown ⟨b, o, none⟩ bs.length c (bs.map fun b => .bool b) (by simp)
      (fun j u hu => by
        rw [Go.WideShapes.add_plain, World.cell?_of_block (w := W) (heap_alloc_old W _ hlt)]
        rw [List.getElem?_map] at hu
        by_cases hj : j < bs.length
        · rw [List.getElem?_eq_getElem hj] at hu
          rw [hc j hj]
          simpa using hu
        · rw [List.getElem?_eq_none (by omega)] at hu; cases hu) (fun x hx => by obtain ⟨z, _, rfl⟩ := List.mem_map.1 hx; rfl) (by unfold maxLen; omega) (by omega) (by simp)
    rw [Nat.zero_add, List.nil_append] at h2
    obtain ⟨g, cap, rfl, _, _⟩ := h2.form h0
    exact ⟨g, cap, W', e, h2, Below.grown hbA h3 (by simp) (fun j hj => by have := (hown.lt _ hj).1; omega)⟩
  · have : bs = [] := List.eq_nil_of_length_eq_zero (by omega)
    subst this
    refine ⟨W.heap.size, 0, _, ?_, hown, hbA⟩
    cases p with
    | none => simp [Builtin.append_, run_underlying Tryd.underlying50, sizeOf, typeInfo, hi, Builtin.lenOf, Builtin.firstCells, loadCells, loadCellsFrom, storeCells]
    | some a =>
      have hl : (loadCells a 0).run Tryd.prog (W.alloc (.cells #[] 4)) = .ok #[] (W.alloc (.cells #[] 4)) := by simpa using run_loadCells_list (P := Tryd.prog) (W.alloc (.cells #[] 4)) a [] (by simp)
      simp [Builtin.append_, run_underlying Tryd.underlying50, sizeOf, typeInfo, hi, Builtin.lenOf, Builtin.firstCells, hl, storeCells]
/-- A list of booleans in its own block. -/
theorem own_bools {base : Nat} {W : World} {g cap : Nat} {bs : List Bool} (h : W.ownsRow base 4 1 (.slice (some ⟨g, 0, none⟩) bs.length cap) bs.length (bs.map fun b => .bool b)) : ∃ cur : Array Value, W.heap[g]? = some (.cells cur 4 (0, 0)) ∧ base ≤ g ∧ bs.length ≤ cur.size ∧ ∀ k (hk : k < bs.length), cur[k]? = some (.bool bs[k]) := by
  obtain ⟨hl, ⟨e, _⟩ | ⟨g', cap', cur, e, hbg, hg, hnc, hcm, hcs, htake⟩⟩ := h
  · cases e
  simp only [Value.slice.injEq, Option.some.injEq, Addr.mk.injEq, and_true, true_and] at e
  obtain ⟨rfl, rfl⟩ := e
  refine ⟨cur, hg, hbg, by omega, fun k hk => ?_⟩
  have h1 : (bs.map fun b => Value.bool b)[k]? = some (.bool bs[k]) := by simp [hk]
  rw [← htake] at h1
  have := List.getElem?_take (l := cur.toList) (i := bs.length * 1) (j := k)
  rw [h1] at this
  split at this
  · simpa using this.symm
  · cases this
theorem set_mono (al : List Bool) (n k : Nat) (h : al.getD k false = true) : (al.set n true).getD k false = true := by
  by_cases hk : k < al.length
  · simp only [List.getD] at h ⊢
    rw [List.getElem?_set]
    by_cases e : n = k
    · subst e; simp [hk]
    · rw [if_neg e]; exact h
  · simp [List.getD, List.getElem?_eq_none (Nat.le_of_not_lt hk)] at h
end Go.Proofs.YthfoijnjgdeaaaaDoor
