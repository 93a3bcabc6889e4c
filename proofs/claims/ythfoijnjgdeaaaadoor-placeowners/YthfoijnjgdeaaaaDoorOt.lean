/- A table and a row as arguments: how they are read. -/
import Derived.Test.YthfoijnjgdeaaaaDoorTg
import Derived.ProofKit
import Derived.OpenShut
import Derived.Lib.SmallJoins
import Derived.Deep.Slices
import Derived.Deep.SlicePairs
namespace Go.Proofs.YthfoijnjgdeaaaaDoor
open Go.ChangeShapes Go.WideShapes Go.ChangeAt Go.RowKit Go.Joins Go.Deep
open Go.ChangeMaps (open_string shut_string)
set_option linter.unusedVariables false
set_option linter.unusedSimpArgs false

theorem cellsO24 : Tryd.prog.cellsOf 64 = 4 := by kernel_rfl
theorem cellsO68 : Tryd.prog.cellsOf 110 = 2 := by kernel_rfl
theorem cellsO38 : Tryd.prog.cellsOf 25 = 1 := by kernel_rfl
theorem cellsO36 : Tryd.prog.cellsOf 29 = 3 := by kernel_rfl
theorem cO22 : Tryd.prog.cellsOf 62 = 1 := by kernel_rfl
theorem cO4 : Tryd.prog.cellsOf 4 = 1 := by kernel_rfl
theorem cO2 : Tryd.prog.cellsOf 2 = 1 := by kernel_rfl
theorem cO9 : Tryd.prog.cellsOf 9 = 1 := by kernel_rfl
theorem u8_low {k : Int} (h : (Lit.int .u8 k).wf = true) : 0 ≤ k := by
  have := bounds_u8 h
  omega
theorem lenOk {n : Nat} (h : n ≤ maxLen) : n ≤ 9223372036854775807 := by unfold maxLen at h; omega
set_option maxRecDepth 100000 in
/-- The four cells of a value. -/
theorem val_cells {H : Type} {enc : TypeId × Value → H} {W : World} {fuel : Nat} {cs : List Value} {x : DataW H × List MemPlace} (h : DataW.trod enc Tryd.prog W 0 (fun _ => true) true fuel 64 cs = some x) (hl : cs.length = 4) :
    ∃ v : Val, cs = [.int .u8 v.k, .bool v.b, .int .i64 v.n, .string v.s] ∧ v.s.size ≤ 9223372036854775807 ∧ 0 ≤ v.k := by
  match cs, hl with
  | [v0, v1, v2, v3], _ =>
    obtain ⟨y0, y1, y2, y3, n, hx, _, h0, h1, h2, h3⟩ := trod_struct4 Tryd.underlying64 h
    simp only [cO22, cO4, cO2, cO9, List.drop_zero, List.drop_succ_cons, List.take_succ_cons, List.take_zero] at h0 h1 h2 h3
    obtain ⟨k, e0, _, wk⟩ := DataW.trod_int Tryd.underlying62 h0
    obtain ⟨b, e1, _⟩ := DataW.trod_bool Tryd.underlying4 h1
    obtain ⟨m, e2, _, wn⟩ := DataW.trod_int Tryd.underlying2 h2
    obtain ⟨s, e3, _, ws⟩ := DataW.trod_string Tryd.underlying9 h3
    simp only [List.cons.injEq, and_true] at e0 e1 e2 e3
    subst e0 e1 e2 e3
    exact ⟨⟨k, b, m, s⟩, rfl, lenOk ws, u8_low wk⟩
theorem addr_plain {W : World} {a : Addr} {v : Value} (h : W.cell? (a.add 0) = some v) : a = ⟨a.block, a.off, none⟩ := by
  have hs := World.cell?_spot h
  obtain ⟨b, o, sp⟩ := a
  simp [Addr.add] at hs
  subst hs
  rfl
theorem block_lt {W : World} {a : Addr} {v : Value} (h : W.cell? a = some v) : a.block < W.heap.size := by
  unfold World.cell? at h
  by_cases hb : a.block < W.heap.size
  · exact hb
  · have : W.heap[a.block]? = none := Array.getElem?_eq_none (by omega)
    simp [this] at h
theorem block_lt0 {W : World} {a : Addr} {v : Value} (h : W.cell? (a.add 0) = some v) : a.block < W.heap.size := by
  have hb := block_lt h
  simpa [Addr.add] using hb
set_option maxRecDepth 100000 in
/-- A row that is handed in. -/
theorem open_row {H : Type} {enc : TypeId × Value → H} {W : World} {fuel : Nat} {v : Value} {x : DataW H × List MemPlace} (hf : DataW.trod enc Tryd.prog W 0 (fun _ => true) true fuel 25 [v] = some x) :
    ∃ (q : Option Addr) (m d : Nat) (xs : List Val), v = .slice q m d ∧ RowA W v xs ∧ ∀ x ∈ xs, 0 ≤ x.k := by
  rcases open_slice Tryd.underlying25 hf with ⟨hcs, hx⟩ | ⟨a, len, cap, m, n, D, Pl, hcs, hb, hl, hm, hmm, hx, hel⟩
  · simp only [List.cons.injEq, and_true] at hcs
    subst hcs
    exact ⟨none, 0, 0, [], rfl, ⟨none, 0, rfl, by simp, by simp, by simp⟩, by simp⟩
  · simp only [List.cons.injEq, and_true] at hcs
    subst hcs
    simp only [if_true] at hmm
    subst hmm
    rw [cellsO24] at hel
    have each : ∀ i, i < len → ∃ x : Val, W.cell? (a.add (i * 4)) = some (.int .u8 x.k) ∧ W.cell? (a.add (i * 4 + 1)) = some (.bool x.b) ∧ W.cell? (a.add (i * 4 + 2)) = some (.int .i64 x.n) ∧ W.cell? (a.add (i * 4 + 3)) = some (.string x.s) ∧ x.s.size ≤ 9223372036854775807 ∧ 0 ≤ x.k := by
      intro i hi
      obtain ⟨cs, g1, g2⟩ := hel i (by omega)
      obtain ⟨_, hlen, hcell⟩ := World.cells?_some g1
      obtain ⟨x, rfl, hx⟩ := val_cells g2 hlen
      have e0 := hcell 0 (by omega)
      have e1 := hcell 1 (by omega)
      have e2 := hcell 2 (by omega)
      have e3 := hcell 3 (by omega)
      rw [add_add] at e0 e1 e2 e3
      exact ⟨x, by simpa using e0, by simpa using e1, by simpa using e2, by simpa using e3, hx⟩
    haveI : Inhabited Val := ⟨⟨0, false, 0, ⟨#[]⟩⟩⟩
    obtain ⟨X, hX⟩ := choose_lt each
    refine ⟨some a, len, m, (List.range len).map X, rfl, ⟨some a, m, by simp, by simp; exact lenOk (by omega), ?_, ?_⟩, ?_⟩
    · intro x hx
      simp only [List.mem_map, List.mem_range] at hx
      obtain ⟨i, hi, rfl⟩ := hx
      exact (hX i hi).2.2.2.2.1
    · intro h0
      simp at h0
      have hp := addr_plain (by simpa using (hX 0 h0).1)
      have hbl := block_lt0 (by simpa using (hX 0 h0).1)
      refine ⟨a.block, a.off, by rw [← hp], ?_, hbl⟩
      intro j hj
      simp at hj
      have := hX j hj
      rw [hp] at this
      simp only [add_plain] at this
      simp only [List.getElem_map, List.getElem_range]
      exact ⟨this.1, by simpa [Nat.add_assoc] using this.2.1, by simpa [Nat.add_assoc] using this.2.2.1, by simpa [Nat.add_assoc] using this.2.2.2.1⟩
    · intro x hx
      simp only [List.mem_map, List.mem_range] at hx
      obtain ⟨i, hi, rfl⟩ := hx
      exact (hX i hi).2.2.2.2.2
set_option maxRecDepth 100000 in
/-- Columns that are handed in. -/
theorem open_cols {H : Type} {enc : TypeId × Value → H} {W : World} {fuel : Nat} {v : Value} {x : DataW H × List MemPlace} (hf : DataW.trod enc Tryd.prog W 0 (fun _ => true) true fuel 26 [v] = some x) :
    ∃ (q : Option Addr) (m d : Nat) (cs : List Col), v = .slice q m d ∧ ColA W v cs := by
  rcases open_slice_pairs Tryd.underlying26 Tryd.underlying110 cellsO68 rfl rfl (by kernel_rfl) (by kernel_rfl) hf with ⟨hcs, hx⟩ | ⟨a, len, cap, m, n, V0, V1, D0, D1, P0, P1, hcs, hb, hl, hm, hmm, hx, hel⟩
  · simp only [List.cons.injEq, and_true] at hcs
    subst hcs
    exact ⟨none, 0, 0, [], rfl, none, 0, rfl, by simp, by simp, by simp, by simp⟩
  · simp only [List.cons.injEq, and_true] at hcs
    subst hcs
    simp only [if_true] at hmm
    subst hmm
    have each : ∀ i, i < len → ∃ c : Col, W.cell? (a.add (i * 2)) = some (.string c.name) ∧ W.cell? (a.add (i * 2 + 1)) = some (.int .u8 c.k) ∧ c.name.size ≤ 9223372036854775807 := by
      intro i hi
      obtain ⟨g0, g1, g2, g3⟩ := hel i (by omega)
      obtain ⟨s, e1, _, ws⟩ := DataW.trod_string Tryd.underlying9 g2
      obtain ⟨k, e0, _, wk⟩ := DataW.trod_int Tryd.underlying62 g3
      simp only [List.cons.injEq, and_true] at e0 e1
      exact ⟨⟨s, k⟩, by rw [g0, e1], by rw [g1, e0], lenOk ws⟩
    haveI : Inhabited Col := ⟨⟨⟨#[]⟩, 0⟩⟩
    obtain ⟨X, hX⟩ := choose_lt each
    refine ⟨some a, len, m, (List.range len).map X, rfl, some a, m, by simp, by simpa using hl, by simp; exact lenOk (by omega), ?_, ?_⟩
    · intro x hx
      simp only [List.mem_map, List.mem_range] at hx
      obtain ⟨i, hi, rfl⟩ := hx
      exact (hX i hi).2.2
    · intro h0
      simp at h0
      have hp := addr_plain (by simpa using (hX 0 h0).1)
      have hbl := block_lt0 (by simpa using (hX 0 h0).1)
      refine ⟨a.block, a.off, by rw [← hp], ?_, hbl⟩
      intro j hj
      simp at hj
      have := hX j hj
      rw [hp] at this
      simp only [add_plain] at this
      simp only [List.getElem_map, List.getElem_range]
      exact ⟨this.1, by simpa [Nat.add_assoc] using this.2.1⟩
set_option maxRecDepth 100000 in
/-- Rows that are handed in. -/
theorem open_rows {H : Type} {enc : TypeId × Value → H} {W : World} {fuel : Nat} {v : Value} {x : DataW H × List MemPlace} (hf : DataW.trod enc Tryd.prog W 0 (fun _ => true) true fuel 27 [v] = some x) :
    ∃ (p : Option Addr) (c : Nat) (rs : List (List Val)), v = .slice p rs.length c ∧ RowsA W p rs ∧ ∀ r ∈ rs, ∀ x ∈ r, 0 ≤ x.k := by
  rcases open_slice1 Tryd.underlying27 cellsO38 hf with ⟨hcs, hx⟩ | ⟨a, len, cap, m, n, V, D, Pl, hcs, hb, hl, hm, hmm, hx, hel⟩
  · simp only [List.cons.injEq, and_true] at hcs
    subst hcs
    exact ⟨none, 0, [], rfl, ⟨by simp, by simp⟩, by simp⟩
  · simp only [List.cons.injEq, and_true] at hcs
    subst hcs
    simp only [if_true] at hmm
    subst hmm
    have each : ∀ i, i < len → ∃ xs : List Val, (∀ x ∈ xs, 0 ≤ x.k) ∧ ∃ q m d, W.cell? (a.add i) = some (.slice q m d) ∧ RowA W (.slice q m d) xs := by
      intro i hi
      obtain ⟨g0, g1⟩ := hel i (by omega)
      obtain ⟨q, m', d, xs, e, hr, hk⟩ := open_row g1
      rw [e] at g0 hr
      exact ⟨xs, hk, q, m', d, g0, hr⟩
    obtain ⟨X, hX⟩ := choose_lt each
    refine ⟨some a, m, (List.range len).map X, by simp, ⟨by simp; exact lenOk (by omega), ?_⟩, fun r hr => ?_⟩
    rotate_left
    · simp only [List.mem_map, List.mem_range] at hr
      obtain ⟨i, hi, rfl⟩ := hr
      exact (hX i hi).1
    intro h0
    simp at h0
    obtain ⟨_, _, _, _, h00, _⟩ := hX 0 h0
    have hp := addr_plain h00
    have hbl := block_lt0 h00
    refine ⟨a.block, a.off, by rw [← hp], hbl, ?_⟩
    intro j hj
    simp at hj
    obtain ⟨_, q, m', d, hc, hr⟩ := hX j hj
    rw [hp, add_plain] at hc
    refine ⟨q, m', d, hc, ?_⟩
    simpa using hr
set_option maxRecDepth 100000 in
/-- A table that is handed in. -/
theorem open_table {H : Type} {enc : TypeId × Value → H} {W : World} {base : Nat} {v : Value} {d : DataW H} {ps : List MemPlace} (hv : Value.okWide Tryd.prog W .any base 29 v) (h : DataW.Trod enc Tryd.prog W 0 (fun _ => true) true 29 v d ps) :
    ∃ (s : ByteArray) (pc : Option Addr) (mc cc : Nat) (cs : List Col) (pr : Option Addr) (cr : Nat) (rs : List (List Val)), v = .agg #[.string s, .slice pc mc cc, .slice pr rs.length cr] ∧ s.size ≤ 9223372036854775807 ∧ ColA W (.slice pc mc cc) cs ∧ RowsA W pr rs ∧ ∀ r ∈ rs, ∀ x ∈ r, 0 ≤ x.k := by
  obtain ⟨v0, v1, v2, y0, y1, y2, m, rfl, rfl, rfl, h0, h1, h2⟩ := open_agg3 Tryd.underlying29 (by kernel_rfl) cellsO36 hv h
  obtain ⟨s, e0, _, ws⟩ := DataW.trod_string Tryd.underlying9 h0
  simp only [List.cons.injEq, and_true] at e0
  subst e0
  obtain ⟨pc, mc, cc, cs, rfl, hc⟩ := open_cols h1
  obtain ⟨pr, cr, rs, rfl, hr, hk⟩ := open_rows h2
  exact ⟨s, pc, mc, cc, cs, pr, cr, rs, rfl, lenOk ws, hc, hr, hk⟩
end Go.Proofs.YthfoijnjgdeaaaaDoor
