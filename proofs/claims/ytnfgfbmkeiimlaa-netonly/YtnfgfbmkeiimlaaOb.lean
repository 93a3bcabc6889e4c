/- Moves as arguments: how they are read, and how great they may be. -/
import Derived.Test.YtnfgfbmkeiimlaaOa
import Derived.Test.YtnfgfbmkeiimlaaNw
namespace Go.Proofs.Ytnfgfbmkeiimlaa
open Go.ChangeShapes Go.WideShapes Go.ChangeAt Go.RowKit Go.Joins Go.Deep
set_option linter.unusedVariables false
set_option linter.unusedSimpArgs false
theorem cO40 : Try.prog.cellsOf 40 = 4 := by kernel_rfl
theorem cO5 : Try.prog.cellsOf 5 = 1 := by kernel_rfl
theorem bO40 : Try.prog.bytesOf 40 = 40 := by kernel_rfl
set_option maxRecDepth 100000 in
theorem move_read {H : Type} {enc : TypeId × Value → H} {W : World} {fuel : Nat} {cs : List Value} {x : DataW H × List MemPlace} (h : DataW.trod enc Try.prog W 0 (fun _ => true) true fuel 40 cs = some x) (hl : cs.length = 4) :
    ∃ s : MV, cs = [.int .u8 s.k, .int .i64 s.f, .int .i64 s.t, .string s.x] ∧ (0 ≤ s.k ∧ s.k ≤ 255) ∧ ((∀ n ∈ x.1.weights Try.prog 40, n ≤ reachBytes) → s.x.size ≤ 140737488355328) := by
  match cs, hl with
  | [v0, v1, v2, v3], _ =>
    obtain ⟨y0, y1, y2, y3, n, hx, _, h0, h1, h2, h3⟩ := Go.Joins.trod_struct4 Try.underlying40 h
    simp only [cO9, cO5, cO3, List.drop_zero, List.drop_succ_cons, List.take_succ_cons, List.take_zero] at h0 h1 h2 h3
    obtain ⟨k, e0, z0, wk⟩ := DataW.trod_int Try.underlying5 h0
    obtain ⟨f, e1, z1, _⟩ := DataW.trod_int Try.underlying3 h1
    obtain ⟨t, e2, z2, _⟩ := DataW.trod_int Try.underlying3 h2
    obtain ⟨d, e3, z3, _⟩ := DataW.trod_string Try.underlying9 h3
    simp only [List.cons.injEq, and_true] at e0 e1 e2 e3
    subst e0 e1 e2 e3
    refine ⟨⟨k, f, t, d⟩, rfl, ?_, fun hw => ?_⟩
    · simpa [Lit.wf, IntKind.min, IntKind.max, IntKind.bits, IntKind.signed] using wk
    have hb : reachBytes = 140737488351232 := rfl
    rw [hx, z0, z1, z2, z3] at hw
    have w3 := hw d.data.toList.length (by simp [DataW.weights, Try.underlying40, DataW.weightsEach])
    rw [bsize] at w3
    show d.size ≤ _
    omega
set_option maxRecDepth 100000 in
theorem moves_read {H : Type} {enc : TypeId × Value → H} {W : World} {fuel : Nat} {v : Value} {x : DataW H × List MemPlace} (hf : DataW.trod enc Try.prog W 0 (fun _ => true) true fuel 38 [v] = some x) (hw : ∀ n ∈ x.1.weights Try.prog 38, n ≤ reachBytes) :
    ∃ ms : List MV, MsL W v ms := by
  have hb : reachBytes = 140737488351232 := rfl
  rcases open_slice Try.underlying38 hf with ⟨hcs, hx⟩ | ⟨a, len, cap, m, n, D, Pl, hcs, hb', hl, hm, hmm, hx, hel⟩
  · simp only [List.cons.injEq, and_true] at hcs
    subst hcs
    exact ⟨[], ⟨none, 0, rfl, by simp, by simp, by simp⟩⟩
  · simp only [List.cons.injEq, and_true] at hcs
    subst hcs
    simp only [if_true] at hmm
    subst hmm
    rw [cO40] at hel
    have each : ∀ i, i < len → ∃ x : MV, W.cell? (a.add (i * 4)) = some (.int .u8 x.k) ∧ W.cell? (a.add (i * 4 + 1)) = some (.int .i64 x.f) ∧ W.cell? (a.add (i * 4 + 2)) = some (.int .i64 x.t) ∧ W.cell? (a.add (i * 4 + 3)) = some (.string x.x) ∧ (0 ≤ x.k ∧ x.k ≤ 255) ∧ x.x.size ≤ 140737488355328 := by
      intro i hi
      obtain ⟨cs, g1, g2⟩ := hel i (by omega)
      obtain ⟨_, hlen, hcell⟩ := World.cells?_some g1
      obtain ⟨x', rfl, hk', hx'⟩ := move_read g2 hlen
      have e0 := hcell 0 (by omega)
      have e1 := hcell 1 (by omega)
      have e2 := hcell 2 (by omega)
      have e3 := hcell 3 (by omega)
      rw [add_add] at e0 e1 e2 e3
      refine ⟨x', by simpa using e0, by simpa using e1, by simpa using e2, by simpa using e3, hk', hx' (fun k hk => hw k ?_)⟩
      rw [hx]
      simp only [DataW.weights, Try.underlying38, List.mem_cons, List.mem_append]
      exact .inr (.inl (weights_all (List.mem_map.2 ⟨i, by simpa using hi, rfl⟩) _ hk))
    have hsz' : len * 40 ≤ reachBytes := by
      rw [hx] at hw
      have := hw _ (by simp only [DataW.weights, Try.underlying38, List.mem_cons]; exact .inl rfl)
      rw [bO40] at this
      simp only [List.length_map, List.length_range] at this
      exact Nat.le_trans (Nat.mul_le_mul_right 40 (Nat.le_add_right _ _)) this
    haveI : Inhabited MV := ⟨⟨0, 0, 0, ⟨#[]⟩⟩⟩
    obtain ⟨X, hX⟩ := choose_lt each
    refine ⟨(List.range len).map X, ⟨some a, m, by simp, by simp; omega, ?_, fun h0 => ?_⟩⟩
    · intro s hs
      simp only [List.mem_map, List.mem_range] at hs
      obtain ⟨i, hi, rfl⟩ := hs
      exact ⟨(hX i hi).2.2.2.2.1, (hX i hi).2.2.2.2.2⟩
    · simp at h0
      obtain ⟨hp, hbl⟩ := plain_addr (by simpa using (hX 0 h0).1)
      refine ⟨a.block, a.off, by rw [← hp], hbl, ?_⟩
      intro j hj
      simp at hj
      have := hX j hj
      rw [hp] at this
      simp only [add_plain] at this
      simp only [List.getElem_map, List.getElem_range]
      exact ⟨this.1, by simpa [Nat.add_assoc] using this.2.1, by simpa [Nat.add_assoc] using this.2.2.1, by simpa [Nat.add_assoc] using this.2.2.2.1⟩
end Go.Proofs.Ytnfgfbmkeiimlaa
