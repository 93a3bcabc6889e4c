/- Leases as arguments: how they are read, and how great they may be. -/
import Derived.Test.YtdcgppdljcokpaaLa
import Derived.ProofKit
import Derived.OpenShut
import Derived.Lib.SmallJoins
import Derived.Deep.Slices
import Derived.SizedLaws
namespace Go.Proofs.Ytdcgppdljcokpaa
open Go.ChangeShapes Go.WideShapes Go.ChangeAt Go.RowKit Go.Joins Go.Deep
open Go.ChangeMaps (open_string shut_string)
set_option linter.unusedVariables false
set_option linter.unusedSimpArgs false
theorem cO25 : Try.prog.cellsOf 25 = 1 := by kernel_rfl
theorem cO22 : Try.prog.cellsOf 22 = 1 := by kernel_rfl
theorem cO24 : Try.prog.cellsOf 24 = 2 := by kernel_rfl
theorem bO25 : Try.prog.bytesOf 25 = 8 := by kernel_rfl
theorem plain_addr {W : World} {a : Addr} {v : Value} (h : W.cell? (a.add 0) = some v) : a = ⟨a.block, a.off, none⟩ ∧ a.block < W.heap.size := by
  have hs := World.cell?_spot h
  obtain ⟨b, o, sp⟩ := a
  simp [Addr.add] at hs
  subst hs
  refine ⟨rfl, ?_⟩
  by_cases hb : b < W.heap.size
  · exact hb
  · have : W.heap[b]? = none := Array.getElem?_eq_none (by omega)
    simp [World.cell?, Addr.add, this] at h
theorem u64_of {n : Int} (h : (Lit.int .u64 n).wf = true) : 0 ≤ n ∧ n < 18446744073709551616 := by
  have := bounds_u64 h
  omega
/-- A number of 64 bits that is handed in. -/
theorem open_u64 {H : Type} {enc : TypeId × Value → H} {W : World} {v : Value} {d : DataW H} {ps : List MemPlace} (h : DataW.Trod enc Try.prog W 0 (fun _ => true) true 25 v d ps) (hv : ∃ n, v = .int .u64 n) : ∃ n, v = .int .u64 n ∧ 0 ≤ n ∧ n < 18446744073709551616 := by
  obtain ⟨n, rfl⟩ := hv
  obtain ⟨fuel, hf⟩ := h
  obtain ⟨m, e, _, hw⟩ := DataW.trod_int Try.underlying25 hf
  simp only [Value.cells, List.cons.injEq, and_true, Value.int.injEq, true_and] at e
  subst e
  exact ⟨n, rfl, u64_of hw⟩
set_option maxRecDepth 100000 in
/-- A list of numbers that is handed in. -/
theorem nums_read {H : Type} {enc : TypeId × Value → H} {W : World} {fuel : Nat} {v : Value} {x : DataW H × List MemPlace} (hf : DataW.trod enc Try.prog W 0 (fun _ => true) true fuel 22 [v] = some x) (hw : ∀ n ∈ x.1.weights Try.prog 22, n ≤ reachBytes) :
    ∃ zs : List Int, NumsL W v zs := by
  have hb : reachBytes = 140737488351232 := rfl
  rcases open_slice1 Try.underlying22 cO25 hf with ⟨hcs, hx⟩ | ⟨a, len, cap, m, n, V, D, Pl, hcs, hbl, hl, hm, hmm, hx, hel⟩
  · simp only [List.cons.injEq, and_true] at hcs
    subst hcs
    exact ⟨[], NumsL.nil W⟩
  · simp only [List.cons.injEq, and_true] at hcs
    subst hcs
    simp only [if_true] at hmm
    subst hmm
    have each : ∀ i, i < len → ∃ z : Int, W.cell? (a.add i) = some (.int .u64 z) ∧ (0 ≤ z ∧ z < 18446744073709551616) := by
      intro i hi
      obtain ⟨g1, g2⟩ := hel i (by omega)
      obtain ⟨z, e, _, hwf⟩ := DataW.trod_int Try.underlying25 g2
      simp only [List.cons.injEq, and_true] at e
      rw [e] at g1
      exact ⟨z, g1, u64_of hwf⟩
    obtain ⟨X, hX⟩ := choose_lt each
    have hlen : len * 8 ≤ 140737488355328 := by
      have h1 := hw (((List.range len).map D).length + ((List.range (m - len)).map fun j => D (len + j)).length |> (· * 8)) (by rw [hx]; simp [DataW.weights, Try.underlying22, bO25])
      simp only [List.length_map, List.length_range] at h1
      omega
    refine ⟨(List.range len).map X, some a, m, by simp, by simp; omega, by unfold maxLen at hm; omega, by simpa using hlen, fun z hz => ?_, (fun h => by cases h), fun h0 => ?_⟩
    · simp at hz
      obtain ⟨i, hi, rfl⟩ := hz
      exact (hX i hi).2
    · simp at h0
      obtain ⟨hp, hblk⟩ := plain_addr (hX 0 h0).1
      refine ⟨a.block, a.off, by rw [← hp], hblk, fun j hj => ?_⟩
      simp at hj
      have := (hX j hj).1
      rw [hp] at this
      simp only [add_plain] at this
      simpa using this
set_option maxRecDepth 100000 in
/-- Leases that are handed in. -/
theorem open_leases {H : Type} {enc : TypeId × Value → H} {W : World} {base : Nat} {v : Value} {d : DataW H} {ps : List MemPlace} (hv : Value.okWide Try.prog W .any base 24 v) (h : DataW.Trod enc Try.prog W 0 (fun _ => true) true 24 v d ps) (hw : ∀ n ∈ d.weights Try.prog 24, n ≤ reachBytes) :
    ∃ (bs ss : List Int) (v0 v1 : Value), v = .agg #[v0, v1] ∧ NumsL W v0 bs ∧ NumsL W v1 ss := by
  obtain ⟨cs, rfl, hsz⟩ := okWide_struct Try.underlying24 hv
  obtain ⟨fuel, hf⟩ := h
  obtain ⟨y0, y1, n, hx, hl, h0, h1⟩ := trod_struct2 Try.underlying24 hf
  simp only [Value.cells] at hl h0 h1
  rw [cO24] at hl
  obtain ⟨v0, v1, hv0⟩ : ∃ v0 v1, cs = #[v0, v1] := by
    have h2 : cs.size = 2 := by simpa using hl
    exact ⟨cs[0], cs[1], Array.ext (by simp [h2]) (fun i hi hi2 => by
      simp at hi2
      match i, hi2 with
      | 0, _ => simp
      | 1, _ => simp)⟩
  subst hv0
  simp only [cO22, List.drop_zero, List.drop_succ_cons, List.take_succ_cons, List.take_zero] at h0 h1
  simp only [Prod.mk.injEq] at hx
  rw [hx.1] at hw
  simp only [DataW.weights, Try.underlying24, DataW.weightsEach, List.mem_append, List.map_cons, List.map_nil] at hw
  obtain ⟨bs, hbs⟩ := nums_read h0 (fun n hn => hw n (.inl hn))
  obtain ⟨ss, hss⟩ := nums_read h1 (fun n hn => hw n (.inr (.inl hn)))
  exact ⟨bs, ss, v0, v1, rfl, hbs, hss⟩
theorem weights_of {H : Type} {ts : List TypeId} {ds : List (DataW H)} (h : (DataW.weightsEach Try.prog ts ds).all (· ≤ reachBytes) = true) {j : Nat} {t : TypeId} {d : DataW H} (ht : ts[j]? = some t) (hd : ds[j]? = some d) : ∀ n ∈ d.weights Try.prog t, n ≤ reachBytes := fun n hn => by
  have := List.all_eq_true.1 h _ (DataW.weights_mem_each ht hd n hn)
  simpa using this
end Go.Proofs.Ytdcgppdljcokpaa
