/- Steps as arguments: how they are read, and how great they may be. -/
import Derived.Test.YtedjfbkpebmggaaOb
import Derived.Test.YtedjfbkpebmggaaSafeWalk
namespace Go.Proofs.Ytedjfbkpebmggaa
open Go.ChangeShapes Go.WideShapes Go.ChangeAt Go.RowKit Go.Joins Go.Deep
set_option linter.unusedVariables false
set_option linter.unusedSimpArgs false
set_option maxRecDepth 100000 in
theorem steps_read {H : Type} {enc : TypeId × Value → H} {W : World} {fuel : Nat} {v : Value} {x : DataW H × List MemPlace} (hf : DataW.trod enc Try.prog W 0 (fun _ => true) true fuel 39 [v] = some x) (hw : ∀ n ∈ x.1.weights Try.prog 39, n ≤ reachBytes) :
    ∃ ss : List SP, StL W v ss := by
  have hb : reachBytes = 140737488351232 := rfl
  rcases open_slice Try.underlying39 hf with ⟨hcs, hx⟩ | ⟨a, len, cap, m, n, D, Pl, hcs, hb', hl, hm, hmm, hx, hel⟩
  · simp only [List.cons.injEq, and_true] at hcs
    subst hcs
    exact ⟨[], ⟨none, 0, rfl, by simp, by simp, by simp⟩⟩
  · simp only [List.cons.injEq, and_true] at hcs
    subst hcs
    simp only [if_true] at hmm
    subst hmm
    rw [cO27] at hel
    have each : ∀ i, i < len → ∃ x : SP, W.cell? (a.add (i * 4)) = some (.int .u8 x.k) ∧ W.cell? (a.add (i * 4 + 1)) = some (.string x.n) ∧ W.cell? (a.add (i * 4 + 2)) = some (.string x.t) ∧ W.cell? (a.add (i * 4 + 3)) = some (.string x.d) ∧ (x.n.size ≤ 140737488355328 ∧ x.t.size ≤ 140737488355328 ∧ x.d.size ≤ 140737488355328) := by
      intro i hi
      obtain ⟨cs, g1, g2⟩ := hel i (by omega)
      obtain ⟨_, hlen, hcell⟩ := World.cells?_some g1
      obtain ⟨x', rfl, hx'⟩ := step_read g2 hlen
      have e0 := hcell 0 (by omega)
      have e1 := hcell 1 (by omega)
      have e2 := hcell 2 (by omega)
      have e3 := hcell 3 (by omega)
      rw [add_add] at e0 e1 e2 e3
      refine ⟨x', by simpa using e0, by simpa using e1, by simpa using e2, by simpa using e3, hx' (fun k hk => hw k ?_)⟩
      rw [hx]
      simp only [DataW.weights, Try.underlying39, List.mem_cons, List.mem_append]
      exact .inr (.inl (weights_all (List.mem_map.2 ⟨i, by simpa using hi, rfl⟩) _ hk))
    have hsz' : len * 56 ≤ reachBytes := by
      rw [hx] at hw
      have := hw _ (by simp only [DataW.weights, Try.underlying39, List.mem_cons]; exact .inl rfl)
      rw [bO27] at this
      simp only [List.length_map, List.length_range] at this
      exact Nat.le_trans (Nat.mul_le_mul_right 56 (Nat.le_add_right _ _)) this
    haveI : Inhabited SP := ⟨⟨0, ⟨#[]⟩, ⟨#[]⟩, ⟨#[]⟩⟩⟩
    obtain ⟨X, hX⟩ := choose_lt each
    refine ⟨(List.range len).map X, ⟨some a, m, by simp, by simp; omega, ?_, fun h0 => ?_⟩⟩
    · intro s hs
      simp only [List.mem_map, List.mem_range] at hs
      obtain ⟨i, hi, rfl⟩ := hs
      exact (hX i hi).2.2.2.2
    · simp at h0
      obtain ⟨hp, hbl⟩ := plain_addr (by simpa using (hX 0 h0).1)
      refine ⟨a.block, a.off, by rw [← hp], hbl, ?_⟩
      intro j hj
      simp at hj
      have := hX j hj
      rw [hp] at this
      simp only [add_plain] at this
      simp only [List.getElem_map, List.getElem_range]
      exact ⟨this.1, by simpa [Nat.add_assoc] using this.2.1, by simpa [Nat.add_assoc] using this.2.2.1, by simpa [Nat.add_assoc] using this.2.2.2.1⟩
/-- A number that is handed in. -/
theorem open_num {H : Type} {enc : TypeId × Value → H} {W : World} {base : Nat} {v : Value} {d : DataW H} {ps : List MemPlace} (hv : Value.okWide Try.prog W .any base 3 v) (h : DataW.Trod enc Try.prog W 0 (fun _ => true) true 3 v d ps) :
    ∃ k : Int, v = .int .i64 k ∧ (-9223372036854775808 ≤ k ∧ k ≤ 9223372036854775807) := by
  obtain ⟨k, rfl⟩ := okWide_int Try.underlying3 hv
  obtain ⟨fuel, hf⟩ := h
  obtain ⟨c, e2, _, wc⟩ := DataW.trod_int Try.underlying3 (by simpa [Value.cells] using hf)
  simp only [List.cons.injEq, and_true, Value.int.injEq, true_and] at e2
  subst e2
  have := bounds_i64 wc
  exact ⟨_, rfl, by omega, by omega⟩
end Go.Proofs.Ytedjfbkpebmggaa
