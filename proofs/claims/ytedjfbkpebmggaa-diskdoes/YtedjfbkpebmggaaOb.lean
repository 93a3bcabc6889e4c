/- A step as an argument: how it is read, and how great it may be. -/
import Derived.Test.YtedjfbkpebmggaaOa
namespace Go.Proofs.Ytedjfbkpebmggaa
open Go.ChangeShapes Go.WideShapes Go.ChangeAt Go.RowKit Go.Joins Go.Deep
set_option linter.unusedVariables false
set_option linter.unusedSimpArgs false
set_option maxRecDepth 100000 in
theorem step_read {H : Type} {enc : TypeId × Value → H} {W : World} {fuel : Nat} {cs : List Value} {x : DataW H × List MemPlace} (h : DataW.trod enc Try.prog W 0 (fun _ => true) true fuel 27 cs = some x) (hl : cs.length = 4) :
    ∃ s : SP, cs = [.int .u8 s.k, .string s.n, .string s.t, .string s.d] ∧ ((∀ n ∈ x.1.weights Try.prog 27, n ≤ reachBytes) → s.n.size ≤ 140737488355328 ∧ s.t.size ≤ 140737488355328 ∧ s.d.size ≤ 140737488355328) := by
  match cs, hl with
  | [v0, v1, v2, v3], _ =>
    obtain ⟨y0, y1, y2, y3, n, hx, _, h0, h1, h2, h3⟩ := Go.Joins.trod_struct4 Try.underlying27 h
    simp only [cO9, cO25, List.drop_zero, List.drop_succ_cons, List.take_succ_cons, List.take_zero] at h0 h1 h2 h3
    obtain ⟨k, e0, z0, _⟩ := DataW.trod_int Try.underlying25 h0
    obtain ⟨s, e1, z1, _⟩ := DataW.trod_string Try.underlying9 h1
    obtain ⟨t, e2, z2, _⟩ := DataW.trod_string Try.underlying9 h2
    obtain ⟨d, e3, z3, _⟩ := DataW.trod_string Try.underlying9 h3
    simp only [List.cons.injEq, and_true] at e0 e1 e2 e3
    subst e0 e1 e2 e3
    refine ⟨⟨k, s, t, d⟩, rfl, fun hw => ?_⟩
    have hb : reachBytes = 140737488351232 := rfl
    rw [hx, z0, z1, z2, z3] at hw
    have w1 := hw s.data.toList.length (by simp [DataW.weights, Try.underlying27, DataW.weightsEach])
    have w2 := hw t.data.toList.length (by simp [DataW.weights, Try.underlying27, DataW.weightsEach])
    have w3 := hw d.data.toList.length (by simp [DataW.weights, Try.underlying27, DataW.weightsEach])
    rw [bsize] at w1 w2 w3
    exact ⟨by show s.size ≤ _; omega, by show t.size ≤ _; omega, by show d.size ≤ _; omega⟩
/-- A step that is handed in. -/
theorem open_step {H : Type} {enc : TypeId × Value → H} {W : World} {base : Nat} {v : Value} {d : DataW H} {ps : List MemPlace} (hv : Value.okWide Try.prog W .any base 27 v) (h : DataW.Trod enc Try.prog W 0 (fun _ => true) true 27 v d ps) :
    ∃ s : SP, v = .agg #[.int .u8 s.k, .string s.n, .string s.t, .string s.d] ∧ ((∀ n ∈ d.weights Try.prog 27, n ≤ reachBytes) → s.n.size ≤ 140737488355328 ∧ s.t.size ≤ 140737488355328 ∧ s.d.size ≤ 140737488355328) := by
  obtain ⟨cs, rfl, hsz⟩ := okWide_struct Try.underlying27 hv
  obtain ⟨fuel, hf⟩ := h
  obtain ⟨s, e, hw⟩ := step_read hf (by simp [Value.cells]; rw [hsz]; exact cO27)
  refine ⟨s, ?_, hw⟩
  simp only [Value.cells] at e
  congr 1
  exact Array.ext' (by simpa using e)
end Go.Proofs.Ytedjfbkpebmggaa
