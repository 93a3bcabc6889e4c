/- A row as an argument: how it is read, and how great its texts may be. -/
import Derived.Test.YthfoijnjgdeaaaaDoorXc
import Derived.ProofKit
import Derived.OpenShut
import Derived.Lib.SmallJoins
import Derived.Deep.Slices
import Derived.SizedLaws
namespace Go.Proofs.YthfoijnjgdeaaaaDoor
open Go.ChangeShapes Go.WideShapes Go.ChangeAt Go.RowKit Go.Joins Go.Deep
open Go.ChangeMaps (open_string shut_string)
set_option linter.unusedVariables false
set_option linter.unusedSimpArgs false

theorem cOn24 : Tryd.prog.cellsOf 64 = 4 := by kernel_rfl
theorem cOn38 : Tryd.prog.cellsOf 25 = 1 := by kernel_rfl
theorem cOn22 : Tryd.prog.cellsOf 62 = 1 := by kernel_rfl
theorem cOn4 : Tryd.prog.cellsOf 4 = 1 := by kernel_rfl
theorem cOn2 : Tryd.prog.cellsOf 2 = 1 := by kernel_rfl
theorem cOn9 : Tryd.prog.cellsOf 9 = 1 := by kernel_rfl
theorem bOn24 : Tryd.prog.bytesOf 64 = 32 := by kernel_rfl
theorem bOn38 : Tryd.prog.bytesOf 25 = 24 := by kernel_rfl
/-- How a value reads. -/
def valD {H : Type} (v : Val) : DataW H := .agg [.lit (.int .u8 v.k), .lit (.bool v.b), .lit (.int .i64 v.n), .lit (.string v.s.data.toList)]
/-- How a row reads. -/
def RowD {H : Type} (xs : List Val) (d : DataW H) : Prop := (xs = [] ∧ d = .nil) ∨ ∃ sp, d = .slice (xs.map valD) sp
set_option maxRecDepth 100000 in
theorem val_read {H : Type} {enc : TypeId × Value → H} {W : World} {fuel : Nat} {cs : List Value} {x : DataW H × List MemPlace} (h : DataW.trod enc Tryd.prog W 0 (fun _ => true) true fuel 64 cs = some x) (hl : cs.length = 4) :
    ∃ v : Val, cs = [.int .u8 v.k, .bool v.b, .int .i64 v.n, .string v.s] ∧ x.1 = valD v ∧ 0 ≤ v.k ∧ v.k ≤ 255 := by
  match cs, hl with
  | [v0, v1, v2, v3], _ =>
    obtain ⟨y0, y1, y2, y3, n, hx, _, h0, h1, h2, h3⟩ := trod_struct4 Tryd.underlying64 h
    simp only [cOn22, cOn4, cOn2, cOn9, List.drop_zero, List.drop_succ_cons, List.take_succ_cons, List.take_zero] at h0 h1 h2 h3
    obtain ⟨k, e0, z0, wk⟩ := DataW.trod_int Tryd.underlying62 h0
    obtain ⟨b, e1, z1⟩ := DataW.trod_bool Tryd.underlying4 h1
    obtain ⟨m, e2, z2, wn⟩ := DataW.trod_int Tryd.underlying2 h2
    obtain ⟨s, e3, z3, ws⟩ := DataW.trod_string Tryd.underlying9 h3
    simp only [List.cons.injEq, and_true] at e0 e1 e2 e3
    subst e0 e1 e2 e3
    have hbd := bounds_u8 wk
    refine ⟨⟨k, b, m, s⟩, rfl, ?_, by show 0 ≤ k; omega, by show k ≤ 255; omega⟩
    rw [hx, z0, z1, z2, z3]
    rfl
theorem plain_addr {W : World} {a : Addr} {v : Value} (h : W.cell? (a.add 0) = some v) : a = ⟨a.block, a.off, none⟩ ∧ a.block < W.heap.size := by
  have hs := World.cell?_spot h
  obtain ⟨b, o, sp⟩ := a
  simp [Addr.add] at hs
  subst hs
  refine ⟨rfl, ?_⟩
  by_cases hb : b < W.heap.size
  · exact hb
  · have : W.heap[b]? = none := Array.getElem?_eq_none (by omega)
    simp [World.cell?, Addr.add, this] at h
set_option maxRecDepth 100000 in
theorem row_read {H : Type} {enc : TypeId × Value → H} {W : World} {fuel : Nat} {v : Value} {x : DataW H × List MemPlace} (hf : DataW.trod enc Tryd.prog W 0 (fun _ => true) true fuel 25 [v] = some x) :
    ∃ xs : List Val, RowV W v xs ∧ RowD xs x.1 ∧ ∀ x ∈ xs, 0 ≤ x.k ∧ x.k ≤ 255 := by
  rcases open_slice Tryd.underlying25 hf with ⟨hcs, hx⟩ | ⟨a, len, cap, m, n, D, Pl, hcs, hb, hl, hm, hmm, hx, hel⟩
  · simp only [List.cons.injEq, and_true] at hcs
    subst hcs
    exact ⟨[], ⟨by simp, .inl ⟨none, 0, rfl, rfl⟩⟩, .inl ⟨rfl, by rw [hx]⟩, by simp⟩
  · simp only [List.cons.injEq, and_true] at hcs
    subst hcs
    simp only [if_true] at hmm
    subst hmm
    rw [cOn24] at hel
    have each : ∀ i, i < len → ∃ x : Val, W.cell? (a.add (i * 4)) = some (.int .u8 x.k) ∧ W.cell? (a.add (i * 4 + 1)) = some (.bool x.b) ∧ W.cell? (a.add (i * 4 + 2)) = some (.int .i64 x.n) ∧ W.cell? (a.add (i * 4 + 3)) = some (.string x.s) ∧ D i = valD x ∧ 0 ≤ x.k ∧ x.k ≤ 255 := by
      intro i hi
      obtain ⟨cs, g1, g2⟩ := hel i (by omega)
      obtain ⟨_, hlen, hcell⟩ := World.cells?_some g1
      obtain ⟨x, rfl, hx⟩ := val_read g2 hlen
      have e0 := hcell 0 (by omega)
      have e1 := hcell 1 (by omega)
      have e2 := hcell 2 (by omega)
      have e3 := hcell 3 (by omega)
      rw [add_add] at e0 e1 e2 e3
      exact ⟨x, by simpa using e0, by simpa using e1, by simpa using e2, by simpa using e3, hx⟩
    haveI : Inhabited Val := ⟨⟨0, false, 0, ⟨#[]⟩⟩⟩
    obtain ⟨X, hX⟩ := choose_lt each
    have hD : (List.range len).map D = ((List.range len).map X).map valD := by
      rw [List.map_map]
      exact List.map_congr_left fun i hi => (hX i (by simpa using hi)).2.2.2.2.1
    refine ⟨(List.range len).map X, ⟨by simp; unfold maxLen at hm; omega, ?_⟩, .inr ⟨_, by rw [hx, hD]⟩, fun x hx => by
      simp only [List.mem_map, List.mem_range] at hx
      obtain ⟨i, hi, rfl⟩ := hx
      exact (hX i hi).2.2.2.2.2⟩
    by_cases h0 : 0 < len
    · obtain ⟨hp, hbl⟩ := plain_addr (by simpa using (hX 0 h0).1)
      refine .inr ⟨a.block, a.off, m, by rw [← hp]; simp, ?_, hbl⟩
      intro j hj
      simp at hj
      have := hX j hj
      rw [hp] at this
      simp only [add_plain] at this
      simp only [List.getElem_map, List.getElem_range]
      exact ⟨this.1, by simpa [Nat.add_assoc] using this.2.1, by simpa [Nat.add_assoc] using this.2.2.1, by simpa [Nat.add_assoc] using this.2.2.2.1⟩
    · have : len = 0 := by omega
      subst this
      exact .inl ⟨some a, m, rfl, rfl⟩
theorem weights_all {H : Type} {P : Program} {e : TypeId} : ∀ {ds : List (DataW H)} {d : DataW H}, d ∈ ds → ∀ n ∈ d.weights P e, n ∈ DataW.weightsAll P e ds
  | d0 :: ds, d, hd, n, hn => by
    simp only [DataW.weightsAll, List.mem_append]
    rcases List.mem_cons.1 hd with rfl | hd
    · exact .inl hn
    · exact .inr (weights_all hd n hn)
/-- How great the texts of a row are that is handed in. -/
theorem row_small {H : Type} {ts : List TypeId} {ds : List (DataW H)} (h : (DataW.weightsEach Tryd.prog ts ds).all (· ≤ reachBytes) = true) {j : Nat} {d : DataW H} {xs : List Val} (ht : ts[j]? = some 25) (hd : ds[j]? = some d) (hr : RowD xs d) : ∀ x ∈ xs, x.s.size ≤ 140737488351232 := by
  have hb : reachBytes = 140737488351232 := rfl
  intro x hx
  rcases hr with ⟨rfl, rfl⟩ | ⟨sp, rfl⟩
  · simp at hx
  · have hm : x.s.data.toList.length ∈ DataW.weightsEach Tryd.prog ts ds := by
      refine DataW.weights_mem_each ht hd _ ?_
      simp only [DataW.weights, Tryd.underlying25, List.mem_cons, List.mem_append]
      refine .inr (.inl (weights_all (List.mem_map.2 ⟨x, hx, rfl⟩) _ ?_))
      rw [valD, DataW.weights, Tryd.underlying64]
      exact DataW.weights_mem_each (j := 3) rfl rfl _ (by simp [DataW.weights])
    have := List.all_eq_true.1 h _ hm
    simp only [decide_eq_true_eq] at this
    have e : x.s.data.toList.length = x.s.size := by simp
    omega
end Go.Proofs.YthfoijnjgdeaaaaDoor
