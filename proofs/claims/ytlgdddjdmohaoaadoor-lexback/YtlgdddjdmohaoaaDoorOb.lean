/- A list of tokens as an argument: how it is read. -/
import Derived.Test.YtlgdddjdmohaoaaDoorBackWalk
import Derived.ProofKit
import Derived.OpenShut
import Derived.Lib.SmallJoins
import Derived.Deep.Slices
namespace Go.Proofs.YtlgdddjdmohaoaaDoor
open Go.ChangeShapes Go.WideShapes Go.ChangeAt Go.RowKit Go.Joins Go.Deep
open Go.ChangeMaps (open_string shut_string)
set_option linter.unusedVariables false

theorem cellsO27 : Tryd.prog.cellsOf 27 = 4 := by kernel_rfl
theorem cO25 : Tryd.prog.cellsOf 25 = 1 := by kernel_rfl
theorem cO3 : Tryd.prog.cellsOf 3 = 1 := by kernel_rfl
theorem cO2 : Tryd.prog.cellsOf 2 = 1 := by kernel_rfl
theorem cO9 : Tryd.prog.cellsOf 9 = 1 := by kernel_rfl
set_option maxRecDepth 100000 in
/-- The four cells of a token. -/
theorem tok_four {H : Type} {enc : TypeId × Value → H} {W : World} {fuel : Nat} {cs : List Value} {x : DataW H × List MemPlace} (h : DataW.trod enc Tryd.prog W 0 (fun _ => true) true fuel 27 cs = some x) (hl : cs.length = 4) :
    ∃ t : Tok, cs = [.int .u8 t.k, .string ⟨t.t.toArray⟩, .int .i64 t.n, .int .i64 t.a] ∧ okT t := by
  match cs, hl with
  | [v0, v1, v2, v3], _ =>
    obtain ⟨y0, y1, y2, y3, n, hx, _, h0, h1, h2, h3⟩ := trod_struct4 Tryd.underlying27 h
    simp only [cO25, cO3, cO2, cO9, List.drop_zero, List.drop_succ_cons, List.take_succ_cons, List.take_zero] at h0 h1 h2 h3
    obtain ⟨k, e0, _, wk⟩ := DataW.trod_int Tryd.underlying25 h0
    obtain ⟨s, e1, _, ws⟩ := DataW.trod_string Tryd.underlying9 h1
    obtain ⟨m, e2, _, wn⟩ := DataW.trod_int Tryd.underlying2 h2
    obtain ⟨q, e3, _, wq⟩ := DataW.trod_int Tryd.underlying3 h3
    simp only [List.cons.injEq, and_true] at e0 e1 e2 e3
    subst e0 e1 e2 e3
    have hb := bounds_i64 wn
    refine ⟨⟨k, s.data.toList, m, q⟩, by simp, ?_, hb.1, hb.2⟩
    show s.data.toList.length ≤ _
    rw [← Lib.size_eq]
    unfold maxLen at ws
    omega
theorem addr_plain {W : World} {a : Addr} {v : Value} (h : W.cell? (a.add 0) = some v) : a = ⟨a.block, a.off, none⟩ := by
  have hs := World.cell?_spot h
  obtain ⟨b, o, sp⟩ := a
  simp [Addr.add] at hs
  subst hs
  rfl
theorem block_lt0 {W : World} {a : Addr} {v : Value} (h : W.cell? (a.add 0) = some v) : a.block < W.heap.size := by
  have h' : W.cell? a = some v := by simpa [Addr.add] using h
  unfold World.cell? at h'
  by_cases hb : a.block < W.heap.size
  · exact hb
  · have : W.heap[a.block]? = none := Array.getElem?_eq_none (by omega)
    simp [this] at h'
set_option maxRecDepth 100000 in
/-- Tokens that are handed in. -/
theorem open_toks {H : Type} {enc : TypeId × Value → H} {W : World} {base : Nat} {v : Value} {d : DataW H} {ps : List MemPlace} (hv : Value.okWide Tryd.prog W .any base 22 v) (h : DataW.Trod enc Tryd.prog W 0 (fun _ => true) true 22 v d ps) :
    ∃ (p : Option Addr) (c : Nat) (ts : List Tok), v = .slice p ts.length c ∧ ts.length ≤ 9223372036854775807 ∧ (∀ t ∈ ts, okT t) ∧ (0 < ts.length → ∃ b o, p = some ⟨b, o, none⟩ ∧ b < W.heap.size ∧ TokIs W b o ts) := by
  obtain ⟨p, len, cap, rfl⟩ := okWide_slice Tryd.underlying22 hv
  obtain ⟨fuel, hf⟩ := h
  rcases open_slice Tryd.underlying22 hf with ⟨hcs, hx⟩ | ⟨a, len', cap', m, n, D, Pl, hcs, hb, hl, hm, hmm, hx, hel⟩
  · simp [Value.cells] at hcs
    obtain ⟨rfl, rfl, rfl⟩ := hcs
    exact ⟨none, 0, [], rfl, by simp, by simp, by simp⟩
  · simp [Value.cells] at hcs
    obtain ⟨rfl, rfl, rfl⟩ := hcs
    simp only [if_true] at hmm
    subst hmm
    rw [cellsO27] at hel
    have each : ∀ i, i < len → ∃ t : Tok, W.cell? (a.add (i * 4)) = some (.int .u8 t.k) ∧ W.cell? (a.add (i * 4 + 1)) = some (.string ⟨t.t.toArray⟩) ∧ W.cell? (a.add (i * 4 + 2)) = some (.int .i64 t.n) ∧ W.cell? (a.add (i * 4 + 3)) = some (.int .i64 t.a) ∧ okT t := by
      intro i hi
      obtain ⟨cs, g1, g2⟩ := hel i (by omega)
      obtain ⟨_, hlen, hcell⟩ := World.cells?_some g1
      obtain ⟨x, rfl, hx⟩ := tok_four g2 hlen
      have e0 := hcell 0 (by omega)
      have e1 := hcell 1 (by omega)
      have e2 := hcell 2 (by omega)
      have e3 := hcell 3 (by omega)
      rw [add_add] at e0 e1 e2 e3
      exact ⟨x, by simpa using e0, by simpa using e1, by simpa using e2, by simpa using e3, hx⟩
    haveI : Inhabited Tok := ⟨noTok⟩
    obtain ⟨X, hX⟩ := choose_lt each
    refine ⟨some a, m, (List.range len).map X, by simp, by simp; unfold maxLen at hm; omega, ?_, ?_⟩
    · intro x hx
      simp only [List.mem_map, List.mem_range] at hx
      obtain ⟨i, hi, rfl⟩ := hx
      exact (hX i hi).2.2.2.2
    · intro h0
      simp at h0
      have hp := addr_plain (by simpa using (hX 0 h0).1)
      have hbl := block_lt0 (by simpa using (hX 0 h0).1)
      refine ⟨a.block, a.off, by rw [← hp], hbl, ?_⟩
      intro j hj
      simp at hj
      have := hX j hj
      rw [hp] at this
      simp only [add_plain] at this
      simp only [List.getElem_map, List.getElem_range]
      exact ⟨this.1, by simpa [Nat.add_assoc] using this.2.1, by simpa [Nat.add_assoc] using this.2.2.1, by simpa [Nat.add_assoc] using this.2.2.2.1⟩
end Go.Proofs.YtlgdddjdmohaoaaDoor
