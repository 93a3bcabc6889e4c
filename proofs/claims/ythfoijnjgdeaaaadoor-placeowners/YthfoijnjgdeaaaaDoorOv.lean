/- A claim and a list of booleans as arguments: how they are read. -/
import Derived.Test.YthfoijnjgdeaaaaDoorCcCd
import Derived.Test.YthfoijnjgdeaaaaDoorOt
namespace Go.Proofs.YthfoijnjgdeaaaaDoor
open Go.ChangeShapes Go.WideShapes Go.ChangeAt Go.RowKit Go.Joins Go.Deep
open Go.ChangeMaps (open_string shut_string)
set_option linter.unusedVariables false
set_option linter.unusedSimpArgs false

theorem cV3 : Tryd.prog.cellsOf 3 = 1 := by kernel_rfl
theorem cV30 : Tryd.prog.cellsOf 30 = 1 := by kernel_rfl
theorem cV26 : Tryd.prog.cellsOf 26 = 1 := by kernel_rfl
theorem cV47 : Tryd.prog.cellsOf 47 = 1 := by kernel_rfl
theorem cV46 : Tryd.prog.cellsOf 46 = 2 := by kernel_rfl
theorem cV49 : Tryd.prog.cellsOf 49 = 5 := by kernel_rfl
theorem cV44 : Tryd.prog.cellsOf 44 = 1 := by kernel_rfl
set_option maxRecDepth 100000 in
theorem open_ints {H : Type} {enc : TypeId × Value → H} {W : World} {fuel : Nat} {v : Value} {x : DataW H × List MemPlace} (hf : DataW.trod enc Tryd.prog W 0 (fun _ => true) true fuel 30 [v] = some x) :
    ∃ zs : List Int, IntsL W v zs := by
  rcases open_slice1 Tryd.underlying30 cV3 hf with ⟨hcs, hx⟩ | ⟨a, len, cap, m, n, V, D, Pl, hcs, hb, hl, hm, hmm, hx, hel⟩
  · simp only [List.cons.injEq, and_true] at hcs
    subst hcs
    exact ⟨[], none, 0, rfl, by simp, by simp⟩
  · simp only [List.cons.injEq, and_true] at hcs
    subst hcs
    simp only [if_true] at hmm
    subst hmm
    have each : ∀ i, i < len → ∃ z : Int, W.cell? (a.add i) = some (.int .i64 z) := by
      intro i hi
      obtain ⟨g0, g1⟩ := hel i (by omega)
      obtain ⟨z, e0, _, _⟩ := DataW.trod_int Tryd.underlying3 g1
      simp only [List.cons.injEq, and_true] at e0
      exact ⟨z, by rw [g0, e0]⟩
    obtain ⟨X, hX⟩ := choose_lt each
    refine ⟨(List.range len).map X, some a, m, by simp, by simp; exact lenOk (by omega), fun h0 => ?_⟩
    simp at h0
    have h00 := hX 0 h0
    have hp := addr_plain h00
    have hbl := block_lt0 h00
    refine ⟨a.block, a.off, by rw [← hp], hbl, fun j hj => ?_⟩
    simp at hj
    have hc := hX j hj
    rw [hp, add_plain] at hc
    simpa using hc
set_option maxRecDepth 100000 in
theorem open_owns {H : Type} {enc : TypeId × Value → H} {W : World} {fuel : Nat} {v : Value} {x : DataW H × List MemPlace} (hf : DataW.trod enc Tryd.prog W 0 (fun _ => true) true fuel 47 [v] = some x) :
    ∃ os : List (List Int), OwnsL W v os := by
  rcases open_slice1 Tryd.underlying47 cV30 hf with ⟨hcs, hx⟩ | ⟨a, len, cap, m, n, V, D, Pl, hcs, hb, hl, hm, hmm, hx, hel⟩
  · simp only [List.cons.injEq, and_true] at hcs
    subst hcs
    exact ⟨[], none, 0, rfl, by simp, by simp⟩
  · simp only [List.cons.injEq, and_true] at hcs
    subst hcs
    simp only [if_true] at hmm
    subst hmm
    have each : ∀ i, i < len → ∃ zs : List Int, W.cell? (a.add i) = some (V i) ∧ IntsL W (V i) zs := by
      intro i hi
      obtain ⟨g0, g1⟩ := hel i (by omega)
      obtain ⟨zs, h⟩ := open_ints g1
      exact ⟨zs, g0, h⟩
    obtain ⟨X, hX⟩ := choose_lt each
    refine ⟨(List.range len).map X, some a, m, by simp, by simp; exact lenOk (by omega), fun h0 => ?_⟩
    simp at h0
    have h00 := (hX 0 h0).1
    have hp := addr_plain h00
    have hbl := block_lt0 h00
    refine ⟨a.block, a.off, by rw [← hp], hbl, fun j hj => ?_⟩
    simp at hj
    have hc := (hX j hj).1
    rw [hp, add_plain] at hc
    exact ⟨V j, hc, by simpa using (hX j hj).2⟩
theorem cV4 : Tryd.prog.cellsOf 4 = 1 := by kernel_rfl
set_option maxRecDepth 100000 in
theorem open_bools {H : Type} {enc : TypeId × Value → H} {W : World} {fuel : Nat} {v : Value} {x : DataW H × List MemPlace} (hf : DataW.trod enc Tryd.prog W 0 (fun _ => true) true fuel 50 [v] = some x) :
    ∃ bs : List Bool, BoolsL W v bs := by
  rcases open_slice1 Tryd.underlying50 cV4 hf with ⟨hcs, hx⟩ | ⟨a, len, cap, m, n, V, D, Pl, hcs, hb, hl, hm, hmm, hx, hel⟩
  · simp only [List.cons.injEq, and_true] at hcs
    subst hcs
    exact ⟨[], none, 0, rfl, by simp, by simp⟩
  · simp only [List.cons.injEq, and_true] at hcs
    subst hcs
    simp only [if_true] at hmm
    subst hmm
    have each : ∀ i, i < len → ∃ z : Bool, W.cell? (a.add i) = some (.bool z) := by
      intro i hi
      obtain ⟨g0, g1⟩ := hel i (by omega)
      obtain ⟨z, e0, _⟩ := DataW.trod_bool Tryd.underlying4 g1
      simp only [List.cons.injEq, and_true] at e0
      exact ⟨z, by rw [g0, e0]⟩
    obtain ⟨X, hX⟩ := choose_lt each
    refine ⟨(List.range len).map X, some a, m, by simp, by simp; exact lenOk (by omega), fun h0 => ?_⟩
    simp at h0
    have h00 := hX 0 h0
    have hp := addr_plain h00
    have hbl := block_lt0 h00
    refine ⟨a.block, a.off, by rw [← hp], hbl, fun j hj => ?_⟩
    simp at hj
    have hc := hX j hj
    rw [hp, add_plain] at hc
    simpa using hc
set_option maxRecDepth 100000 in
/-- A claim that is handed in. -/
theorem open_claim {H : Type} {enc : TypeId × Value → H} {W : World} {base : Nat} {v : Value} {d : DataW H} {ps : List MemPlace} (hv : Value.okWide Tryd.prog W .any base 49 v) (h : DataW.Trod enc Tryd.prog W 0 (fun _ => true) true 49 v d ps) :
    ∃ (s : ByteArray) (pc : Option Addr) (mc cc : Nat) (cs : List Col) (vb vl : Int) (vo : Value) (os : List (List Int)), v = .agg #[.string s, .slice pc mc cc, .int .u64 vb, .int .u64 vl, vo] ∧ s.size ≤ 9223372036854775807 ∧ ColA W (.slice pc mc cc) cs ∧ OwnsL W vo os := by
  obtain ⟨cs, rfl, hsz⟩ := okWide_struct Tryd.underlying49 hv
  have h5 : cs.size = 5 := hsz.trans cV49
  obtain ⟨fuel, hf⟩ := h
  obtain ⟨y0, y1, y2, y3, n, hx, _, h0, h1, h2, h3⟩ := trod_struct4 Tryd.underlying49 hf
  obtain ⟨l⟩ := cs
  match l, h5 with
  | [c0, c1, c2, c3, c4], _ =>
    simp only [Value.cells, cO9, cV26, cV46, cV47, List.drop_zero, List.drop_succ_cons, List.take_succ_cons, List.take_zero] at h0 h1 h2 h3
    obtain ⟨s, e0, _, ws⟩ := DataW.trod_string Tryd.underlying9 h0
    obtain ⟨pc, mc, cc, cs, e1, hc⟩ := open_cols h1
    obtain ⟨z0, z1, n2, _, _, g0, g1⟩ := trod_struct2 Tryd.underlying46 h2
    simp only [cV44, List.drop_zero, List.drop_succ_cons, List.take_succ_cons, List.take_zero] at g0 g1
    obtain ⟨vb, f0, _, _⟩ := DataW.trod_int Tryd.underlying44 g0
    obtain ⟨vl, f1, _, _⟩ := DataW.trod_int Tryd.underlying44 g1
    obtain ⟨os, ho⟩ := open_owns h3
    simp only [List.cons.injEq, and_true] at e0 f0 f1
    subst e0 e1 f0 f1
    exact ⟨s, pc, mc, cc, cs, vb, vl, c4, os, rfl, lenOk ws, hc, ho⟩
end Go.Proofs.YthfoijnjgdeaaaaDoor
