/- A row of values and a list of columns as arguments: how they are read. -/
import Derived.Test.YtnfieaminhlmdaaDoorRowsA
import Derived.ProofKit
import Derived.OpenShut
import Derived.Lib.SmallJoins
import Derived.Deep.Slices
import Derived.Deep.SlicePairs
namespace Go.Proofs.YtnfieaminhlmdaaDoor
open Go.ChangeShapes Go.WideShapes Go.ChangeAt Go.RowKit Go.Joins Go.Deep
open Go.ChangeMaps (open_string shut_string)
set_option linter.unusedVariables false

theorem cells30 : Tryd.prog.cellsOf 30 = 4 := by kernel_rfl
theorem cells43 : Tryd.prog.cellsOf 43 = 2 := by kernel_rfl
theorem c28 : Tryd.prog.cellsOf 28 = 1 := by kernel_rfl
theorem c4 : Tryd.prog.cellsOf 4 = 1 := by kernel_rfl
theorem c2 : Tryd.prog.cellsOf 2 = 1 := by kernel_rfl
theorem c9 : Tryd.prog.cellsOf 9 = 1 := by kernel_rfl
set_option maxRecDepth 100000 in
/-- The four cells of a value. -/
theorem val_cells {H : Type} {enc : TypeId × Value → H} {W : World} {fuel : Nat} {cs : List Value} {x : DataW H × List MemPlace} (h : DataW.trod enc Tryd.prog W 0 (fun _ => true) true fuel 30 cs = some x) (hl : cs.length = 4) :
    ∃ v : Val, cs = [.int .u8 v.k, .bool v.b, .int .i64 v.n, .string v.s] ∧ v.s.size ≤ maxLen := by
  match cs, hl with
  | [v0, v1, v2, v3], _ =>
    obtain ⟨y0, y1, y2, y3, n, hx, _, h0, h1, h2, h3⟩ := trod_struct4 Tryd.underlying30 h
    simp only [c28, c4, c2, c9, List.drop_zero, List.drop_succ_cons, List.take_succ_cons, List.take_zero] at h0 h1 h2 h3
    obtain ⟨k, e0, _, wk⟩ := DataW.trod_int Tryd.underlying28 h0
    obtain ⟨b, e1, _⟩ := DataW.trod_bool Tryd.underlying4 h1
    obtain ⟨m, e2, _, wn⟩ := DataW.trod_int Tryd.underlying2 h2
    obtain ⟨s, e3, _, ws⟩ := DataW.trod_string Tryd.underlying9 h3
    simp only [List.cons.injEq, and_true] at e0 e1 e2 e3
    subst e0 e1 e2 e3
    exact ⟨⟨k, b, m, s⟩, rfl, ws⟩
theorem addr_plain {W : World} {a : Addr} {v : Value} (h : W.cell? (a.add 0) = some v) : a = ⟨a.block, a.off, none⟩ := by
  have hs := World.cell?_spot h
  obtain ⟨b, o, sp⟩ := a
  simp [Addr.add] at hs
  subst hs
  rfl
theorem block_lt {W : World} {a : Addr} {v : Value} (h : W.cell? a = some v) : a.block < W.heap.size := by
  unfold World.cell? at h
  by_cases hb : a.block < W.heap.size
  · exact hb
  · have : W.heap[a.block]? = none := Array.getElem?_eq_none (by omega)
    simp [this] at h
set_option maxRecDepth 100000 in
/-- A row that is handed in. -/
theorem open_row {H : Type} {enc : TypeId × Value → H} {W : World} {base : Nat} {v : Value} {d : DataW H} {ps : List MemPlace} (hv : Value.okWide Tryd.prog W .any base 38 v) (h : DataW.Trod enc Tryd.prog W 0 (fun _ => true) true 38 v d ps) :
    ∃ (p : Option Addr) (c : Nat) (xs : List Val), v = .slice p xs.length c ∧ xs.length ≤ maxLen ∧ (∀ x ∈ xs, x.s.size ≤ maxLen) ∧ RowC W p xs ∧
      (0 < xs.length → ∃ b o, p = some ⟨b, o, none⟩ ∧ RowIs W b o xs ∧ b < W.heap.size) ∧ (xs = [] ∨ ∃ es sp, d = .slice es sp ∧ es.length = xs.length) := by
  obtain ⟨p, len, cap, rfl⟩ := okWide_slice Tryd.underlying38 hv
  obtain ⟨fuel, hf⟩ := h
  rcases open_slice Tryd.underlying38 hf with ⟨hcs, hx⟩ | ⟨a, len', cap', m, n, D, Pl, hcs, hb, hl, hm, hmm, hx, hel⟩
  · simp [Value.cells] at hcs
    obtain ⟨rfl, rfl, rfl⟩ := hcs
    exact ⟨none, 0, [], rfl, by simp, by simp, .inl ⟨rfl, rfl⟩, by simp, .inl rfl⟩
  · simp [Value.cells] at hcs
    obtain ⟨rfl, rfl, rfl⟩ := hcs
    simp only [if_true] at hmm
    subst hmm
    rw [cells30] at hel
    have each : ∀ i, i < len → ∃ x : Val, W.cell? (a.add (i * 4)) = some (.int .u8 x.k) ∧ W.cell? (a.add (i * 4 + 1)) = some (.bool x.b) ∧ W.cell? (a.add (i * 4 + 2)) = some (.int .i64 x.n) ∧ W.cell? (a.add (i * 4 + 3)) = some (.string x.s) ∧ x.s.size ≤ maxLen := by
      intro i hi
      obtain ⟨cs, g1, g2⟩ := hel i (by omega)
      obtain ⟨_, hlen, hcell⟩ := World.cells?_some g1
      obtain ⟨x, rfl, hx⟩ := val_cells g2 hlen
      have e0 := hcell 0 (by omega)
      have e1 := hcell 1 (by omega)
      have e2 := hcell 2 (by omega)
      have e3 := hcell 3 (by omega)
      rw [add_add] at e0 e1 e2 e3
      exact ⟨x, by simpa using e0, by simpa using e1, by simpa using e2, by simpa using e3, hx⟩
    haveI : Inhabited Val := ⟨⟨0, false, 0, ⟨#[]⟩⟩⟩
    obtain ⟨X, hX⟩ := choose_lt each
    refine ⟨some a, m, (List.range len).map X, by simp, by simp; omega, ?_, ?_, ?_, .inr ⟨_, _, congrArg Prod.fst hx, by simp⟩⟩
    · intro x hx
      simp only [List.mem_map, List.mem_range] at hx
      obtain ⟨i, hi, rfl⟩ := hx
      exact (hX i hi).2.2.2.2
    · by_cases h0 : 0 < len
      · have hp := addr_plain (by simpa using (hX 0 h0).1)
        have hb := block_lt (hX 0 h0).1
        have hbl : a.block < W.heap.size := by unfold Addr.add at hb; split at hb <;> simpa using hb
        refine .inr ⟨a, rfl, fun j u hu => ⟨?_, hbl⟩⟩
        have hr : RowIs W a.block a.off ((List.range len).map X) := by
          intro j hj
          simp at hj
          have := hX j hj
          rw [hp] at this
          simp only [add_plain] at this
          simp only [List.getElem_map, List.getElem_range]
          exact ⟨this.1, by simpa [Nat.add_assoc] using this.2.1, by simpa [Nat.add_assoc] using this.2.2.1, by simpa [Nat.add_assoc] using this.2.2.2.1⟩
        rw [hp]
        exact flat_add hr j u hu
      · have : len = 0 := by omega
        subst this
        exact .inr ⟨a, rfl, fun j u hu => by simp [flat] at hu⟩
    · intro h0
      simp at h0
      have hp := addr_plain (by simpa using (hX 0 h0).1)
      have hb := block_lt (hX 0 h0).1
      have hbl : a.block < W.heap.size := by unfold Addr.add at hb; split at hb <;> simpa using hb
      refine ⟨a.block, a.off, by rw [← hp], ?_, hbl⟩
      intro j hj
      simp at hj
      have := hX j hj
      rw [hp] at this
      simp only [add_plain] at this
      simp only [List.getElem_map, List.getElem_range]
      exact ⟨this.1, by simpa [Nat.add_assoc] using this.2.1, by simpa [Nat.add_assoc] using this.2.2.1, by simpa [Nat.add_assoc] using this.2.2.2.1⟩
set_option maxRecDepth 100000 in
/-- Columns that are handed in. -/
theorem open_cols {H : Type} {enc : TypeId × Value → H} {W : World} {base : Nat} {v : Value} {d : DataW H} {ps : List MemPlace} (hv : Value.okWide Tryd.prog W .any base 41 v) (h : DataW.Trod enc Tryd.prog W 0 (fun _ => true) true 41 v d ps) :
    ∃ (p : Option Addr) (c : Nat) (ks : List Int), v = .slice p ks.length c ∧ ks.length ≤ maxLen ∧
      (0 < ks.length → ∃ b o, p = some ⟨b, o, none⟩ ∧ ColIs W b o ks ∧ b < W.heap.size) := by
  obtain ⟨p, len, cap, rfl⟩ := okWide_slice Tryd.underlying41 hv
  obtain ⟨fuel, hf⟩ := h
  rcases open_slice_pairs Tryd.underlying41 Tryd.underlying43 cells43 rfl rfl (by kernel_rfl) (by kernel_rfl) hf with ⟨hcs, hx⟩ | ⟨a, len', cap', m, n, V0, V1, D0, D1, P0, P1, hcs, hb, hl, hm, hmm, hx, hel⟩
  · simp [Value.cells] at hcs
    obtain ⟨rfl, rfl, rfl⟩ := hcs
    exact ⟨none, 0, [], rfl, by simp, by simp⟩
  · simp [Value.cells] at hcs
    obtain ⟨rfl, rfl, rfl⟩ := hcs
    simp only [if_true] at hmm
    subst hmm
    have each : ∀ i, i < len → ∃ k : Int, W.cell? (a.add (i * 2 + 1)) = some (.int .u8 k) := by
      intro i hi
      obtain ⟨_, g1, _, g3⟩ := hel i (by omega)
      obtain ⟨k, e0, _, wk⟩ := DataW.trod_int Tryd.underlying28 g3
      simp only [List.cons.injEq, and_true] at e0
      exact ⟨k, by rw [g1, e0]⟩
    obtain ⟨K, hK⟩ := choose_lt each
    refine ⟨some a, m, (List.range len).map K, by simp, by simp; omega, ?_⟩
    intro h0
    simp at h0
    have hp := addr_plain (by simpa using (hel 0 (by omega)).1)
    have hb := block_lt (hK 0 h0)
    have hbl : a.block < W.heap.size := by unfold Addr.add at hb; split at hb <;> simpa using hb
    refine ⟨a.block, a.off, by rw [← hp], ?_, hbl⟩
    intro j hj
    simp at hj
    have := hK j hj
    rw [hp] at this
    simp only [add_plain] at this
    simp only [List.getElem_map, List.getElem_range]
    simpa [Nat.add_assoc] using this
end Go.Proofs.YtnfieaminhlmdaaDoor
