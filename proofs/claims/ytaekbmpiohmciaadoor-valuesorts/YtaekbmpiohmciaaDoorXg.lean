/- The law ValueSorts returns true. -/
import Derived.Test.YtaekbmpiohmciaaDoorXf
import Derived.Test.YtaekbmpiohmciaaDoorLives
namespace Go.Proofs.YtaekbmpiohmciaaDoor
open Go.Shelf Go.RowKit Go.Lib Go.Sort
set_option linter.unusedVariables false
set_option linter.unusedSimpArgs false
attribute [local go_sem ↓] Go.wp_at_zero Go.wp_at_succ

theorem own_rows {base n : Nat} {W : World} {v : Value} {us : List Value} {rs : List (List Val)} (hv : W.ownsRow base 38 1 v n us) (hn : rs.length = n) (hl : rs.length ≤ 9223372036854775807) (hr : ∀ j (h : j < rs.length), ∃ u, us[j]? = some u ∧ RowV W u rs[j]) : RowsL W v rs := by
  subst hn
  obtain ⟨hl', ⟨rfl, h0⟩ | ⟨g, cap, cur, rfl, hbg, hg, hnc, hcm, hcs, htake⟩⟩ := hv
  · exact ⟨none, 0, by rw [h0], hl, fun h => by omega⟩
  · refine ⟨_, cap, rfl, hl, fun _ => ⟨g, 0, rfl, (Array.getElem?_eq_some_iff.1 hg).1, fun j hj => ?_⟩⟩
    obtain ⟨u, h1, h2⟩ := hr j hj
    refine ⟨u, ?_, h2⟩
    rw [← htake] at h1
    rw [Nat.zero_add]
    simp only [World.cell?, hg]
    have := List.getElem?_take (l := cur.toList) (i := rs.length * 1) (j := j)
    rw [h1] at this
    split at this
    · simpa using this.symm
    · cases this
theorem rowV_one {w : World} {u : Value} {xs : List Val} (h : RowV w u xs) : u.oneCell' = true := by
  obtain ⟨p, n, c, rfl⟩ := h.slice; rfl
/-- append(v, l...): all rows of l behind those of v. -/
theorem rows_onto (base : Nat) (w W : World) (ty : TypeId) (v vl : Value) (n : Nat) (us : List Value) (rs : List (List Val)) (hv : W.ownsRow base 38 1 v n us) (hl : RowsL w vl rs) (hB : Below w.heap.size w W) (hbase : base ≤ W.heap.size) (hby : (n + rs.length) * 24 ≤ 140737488355328) :
    ∃ v' W' hs, (Builtin.append_ #[34, 34] ty #[v, vl]).run Tryd.prog W = .ok v' W' ∧ W'.ownsRow base 38 1 v' (n + rs.length) (us ++ hs) ∧ hs.length = rs.length ∧ (∀ j (h : j < rs.length), ∃ u, hs[j]? = some u ∧ RowV w u rs[j]) ∧ W.grownBy W' v.ownBlock := by
  obtain ⟨i0, hi, hz0, hz1, hz2⟩ := info38
  obtain ⟨p, c, rfl, hll, hp⟩ := hl
  cases p with
  | none =>
    have h0 : rs = [] := by
      cases rs with
      | nil => rfl
      | cons r rs => obtain ⟨b, o, e, _⟩ := hp (by simp); cases e
    subst h0
    refine ⟨v, W, [], ?_, by simpa using hv, rfl, fun j h => by simp at h, ⟨rfl, rfl, rfl, Nat.le_refl _, fun _ _ _ => rfl⟩⟩
    obtain ⟨hl', ⟨rfl, h0⟩ | ⟨g, cap, cur, rfl, hbg, hg, hnc, hcm, hcs, htake⟩⟩ := hv
    · simp [Builtin.append_, run_underlying Tryd.underlying34, sizeOf, typeInfo, hi, Builtin.lenOf, Builtin.firstCells, loadCells, loadCellsFrom, storeCells]
    · have h9 : ¬ (9223372036854775807 < n) := by unfold maxLen at hcm; omega
      have h8 : ¬ cap < n := by omega
      simp [Builtin.append_, run_underlying Tryd.underlying34, sizeOf, typeInfo, hi, Builtin.lenOf, Builtin.firstCells, loadCells, loadCellsFrom, storeCells, h9, h8, hnc]
  | some a =>
    have hnews : ∃ hs : List Value, hs.length = rs.length ∧ (∀ j u, hs[j]? = some u → W.cell? (a.add j) = some u) ∧ (∀ u ∈ hs, u.oneCell' = true) ∧ ∀ j (h : j < rs.length), ∃ u, hs[j]? = some u ∧ RowV w u rs[j] := by
      by_cases h0 : 0 < rs.length
      · obtain ⟨b, o, e, hlt, hc⟩ := hp h0
        obtain rfl := Option.some.inj e
        haveI : Inhabited Value := ⟨.slice none 0 0⟩
        have hc' : ∀ j, j < rs.length → ∃ u, w.cell? ⟨b, o + j, none⟩ = some u ∧ RowV w u rs[j]! := fun j hj => by
          obtain ⟨u, h1, h2⟩ := hc j hj
          exact ⟨u, h1, by rw [getElem!_pos rs j hj]; exact h2⟩
        obtain ⟨U, hU⟩ := Deep.choose_lt hc'
        refine ⟨(List.range rs.length).map U, by simp, fun j u hu => ?_, fun u hu => ?_, fun j hj => ?_⟩
        · rw [List.getElem?_map] at hu
          by_cases hj : j < rs.length
          · rw [List.getElem?_range hj] at hu
            simp only [Option.map_some, Option.some.injEq] at hu
            subst hu
            have hadd : (⟨b, o, none⟩ : Addr).add j = ⟨b, o + j, none⟩ := by unfold Addr.add; split <;> simp_all
            rw [hadd, hB.cell (p := ⟨b, _, none⟩) hlt]
            exact (hU j hj).1
          · rw [List.getElem?_eq_none (by simp; omega)] at hu; cases hu
        · simp only [List.mem_map, List.mem_range] at hu
          obtain ⟨j, hj, rfl⟩ := hu
          exact rowV_one (hU j hj).2
        · refine ⟨U j, by rw [List.getElem?_map, List.getElem?_range hj]; rfl, ?_⟩
          have := (hU j hj).2
          rwa [getElem!_pos rs j hj] at this
      · have e : rs = [] := List.eq_nil_of_length_eq_zero (by omega)
        subst e
        exact ⟨[], rfl, by simp, by simp, fun j h => by simp at h⟩
    obtain ⟨hs, hlen, hcell, hone, hrow⟩ := hnews
    obtain ⟨v', W', e, h2, h3, _, h5⟩ := run_append_own_at (P := Tryd.prog) W base 34 ty 38 i0 _ 1 24 Tryd.underlying34 hi hz0 hz1 hz2 rfl (by omega) v n us hv a rs.length c hs (by omega) hcell hone (by unfold maxLen; omega) (by omega) hbase
    exact ⟨v', W', hs, e, h2, hlen, hrow, h3⟩
/-- more := append(append([]api.Row{}, l...), r). -/
theorem more_made (w W : World) (vl : Value) (q : Option Addr) (m c : Nat) (rs : List (List Val)) (r : List Val) (hl : RowsL w vl rs) (hr : RowV w (.slice q m c) r) (hB : Below w.heap.size w W) (hby : (rs.length + 1) * 24 ≤ 140737488355328) :
    ∃ v1 W1 v2 W2, (Builtin.append_ #[34, 34] 34 #[.slice (some ⟨W.heap.size, 0, none⟩) 0 0, vl]).run Tryd.prog (W.alloc (.cells #[] 38)) = .ok v1 W1 ∧
      (Builtin.append_ #[34, 34] 34 #[v1, .slice (some ⟨W1.heap.size, 0, none⟩) 1 1]).run Tryd.prog (W1.alloc (.cells #[.slice q m c] 38)) = .ok v2 W2 ∧ Below W.heap.size W W2 ∧ RowsL W2 v2 (rs ++ [r]) := by
  have hown : (W.alloc (.cells #[] 38)).ownsRow W.heap.size 38 1 (.slice (some ⟨W.heap.size, 0, none⟩) 0 0) 0 [] := ⟨rfl, .inr ⟨W.heap.size, 0, #[], rfl, Nat.le_refl _, heap_alloc_new W _, Nat.le_refl _, Nat.zero_le _, rfl, rfl⟩⟩
  obtain ⟨v1, W1, hs, e1, o1, l1, r1, g1⟩ := rows_onto W.heap.size w (W.alloc (.cells #[] 38)) 34 _ vl 0 [] rs hown hl (hB.alloc hB.size _) (by simp) (by omega)
  rw [Nat.zero_add, List.nil_append] at o1
  have b1 : Below W.heap.size W W1 := grown_below ((Below.refl _ _).alloc (Nat.le_refl _) _) g1 (fun k h => by simp [Value.ownBlock] at h; omega)
  obtain ⟨v2, W2, e2, o2, g2⟩ := rows_more W.heap.size W1 34 v1 (.slice q m c) rs.length hs o1 rfl b1.size (by omega)
  have b2 : Below W.heap.size W W2 := grown_below b1 g2 (fun k h => (o1.lt k h).1)
  refine ⟨v1, W1, v2, W2, e1, e2, b2, own_rows o2 (by simp) (by simp; omega) fun j hj => ?_⟩
  have hb : Below w.heap.size w W2 := hB.trans (b2.mono hB.size)
  by_cases hj' : j < rs.length
  · obtain ⟨u, h1, h2⟩ := r1 j hj'
    refine ⟨u, by rw [List.getElem?_append_left (by omega)]; exact h1, ?_⟩
    rw [List.getElem_append_left hj']
    exact h2.below hb
  · have : j = rs.length := by simp at hj; omega
    subst this
    refine ⟨.slice q m c, by rw [List.getElem?_append_right (by omega), l1, Nat.sub_self]; rfl, ?_⟩
    rw [List.getElem_append_right (by omega)]
    simpa using hr.below hb
/-- front := append([]api.Row{r}, l...). -/
theorem front_made (w W : World) (vl : Value) (q : Option Addr) (m c : Nat) (rs : List (List Val)) (r : List Val) (hl : RowsL w vl rs) (hr : RowV w (.slice q m c) r) (hB : Below w.heap.size w W) (hby : (rs.length + 1) * 24 ≤ 140737488355328) :
    ∃ v1 W1, (Builtin.append_ #[34, 34] 34 #[.slice (some ⟨W.heap.size, 0, none⟩) 1 1, vl]).run Tryd.prog (W.alloc (.cells #[.slice q m c] 38)) = .ok v1 W1 ∧ Below W.heap.size W W1 ∧ RowsL W1 v1 (r :: rs) := by
  have hown : (W.alloc (.cells #[.slice q m c] 38)).ownsRow W.heap.size 38 1 (.slice (some ⟨W.heap.size, 0, none⟩) 1 1) 1 [.slice q m c] := ⟨rfl, .inr ⟨W.heap.size, 1, #[.slice q m c], rfl, Nat.le_refl _, heap_alloc_new W _, Nat.le_refl _, by decide, rfl, rfl⟩⟩
  obtain ⟨v1, W1, hs, e1, o1, l1, r1, g1⟩ := rows_onto W.heap.size w (W.alloc (.cells #[.slice q m c] 38)) 34 _ vl 1 _ rs hown hl (hB.alloc hB.size _) (by simp) (by omega)
  have b1 : Below W.heap.size W W1 := grown_below ((Below.refl _ _).alloc (Nat.le_refl _) _) g1 (fun k h => by simp [Value.ownBlock] at h; omega)
  have hb : Below w.heap.size w W1 := hB.trans (b1.mono hB.size)
  refine ⟨v1, W1, e1, b1, own_rows o1 (by simp; omega) (by simp; omega) fun j hj => ?_⟩
  cases j with
  | zero => exact ⟨_, rfl, hr.below hb⟩
  | succ j =>
    obtain ⟨u, h1, h2⟩ := r1 j (by simpa using hj)
    exact ⟨u, by simpa using h1, by simpa using h2.below hb⟩
end Go.Proofs.YtaekbmpiohmciaaDoor
