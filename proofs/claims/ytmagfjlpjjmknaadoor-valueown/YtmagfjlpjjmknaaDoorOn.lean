/- Rows as arguments: how they are read, and how great they may be. -/
import Derived.Test.YtmagfjlpjjmknaaDoorXb
import Derived.ProofKit
import Derived.OpenShut
import Derived.Lib.SmallJoins
import Derived.Deep.Slices
import Derived.SizedLaws
namespace Go.Proofs.YtmagfjlpjjmknaaDoor
open Go.ChangeShapes Go.WideShapes Go.ChangeAt Go.RowKit Go.Joins Go.Deep
open Go.ChangeMaps (open_string shut_string)
set_option linter.unusedVariables false
set_option linter.unusedSimpArgs false

theorem cOn24 : Tryd.prog.cellsOf 30 = 4 := by kernel_rfl
theorem cOn38 : Tryd.prog.cellsOf 38 = 1 := by kernel_rfl
theorem cOn22 : Tryd.prog.cellsOf 28 = 1 := by kernel_rfl
theorem cOn4 : Tryd.prog.cellsOf 4 = 1 := by kernel_rfl
theorem cOn2 : Tryd.prog.cellsOf 2 = 1 := by kernel_rfl
theorem cOn9 : Tryd.prog.cellsOf 9 = 1 := by kernel_rfl
theorem bOn24 : Tryd.prog.bytesOf 30 = 32 := by kernel_rfl
theorem bOn38 : Tryd.prog.bytesOf 38 = 24 := by kernel_rfl
/-- How a value reads. -/
def valD {H : Type} (v : Val) : DataW H := .agg [.lit (.int .u8 v.k), .lit (.bool v.b), .lit (.int .i64 v.n), .lit (.string v.s.data.toList)]
/-- How a row reads. -/
def RowD {H : Type} (xs : List Val) (d : DataW H) : Prop := (xs = [] ∧ d = .nil) ∨ ∃ sp, d = .slice (xs.map valD) sp
/-- How rows read. -/
def RowsD {H : Type} (rs : List (List Val)) (d : DataW H) : Prop := (rs = [] ∧ d = .nil) ∨ ∃ es sp, d = .slice es sp ∧ es.length = rs.length ∧ ∀ j (h : j < rs.length), ∃ e, es[j]? = some e ∧ RowD rs[j] e
set_option maxRecDepth 100000 in
theorem val_read {H : Type} {enc : TypeId × Value → H} {W : World} {fuel : Nat} {cs : List Value} {x : DataW H × List MemPlace} (h : DataW.trod enc Tryd.prog W 0 (fun _ => true) true fuel 30 cs = some x) (hl : cs.length = 4) :
    ∃ v : Val, cs = [.int .u8 v.k, .bool v.b, .int .i64 v.n, .string v.s] ∧ x.1 = valD v := by
  match cs, hl with
  | [v0, v1, v2, v3], _ =>
    obtain ⟨y0, y1, y2, y3, n, hx, _, h0, h1, h2, h3⟩ := trod_struct4 Tryd.underlying30 h
    simp only [cOn22, cOn4, cOn2, cOn9, List.drop_zero, List.drop_succ_cons, List.take_succ_cons, List.take_zero] at h0 h1 h2 h3
    obtain ⟨k, e0, z0, wk⟩ := DataW.trod_int Tryd.underlying28 h0
    obtain ⟨b, e1, z1⟩ := DataW.trod_bool Tryd.underlying4 h1
    obtain ⟨m, e2, z2, wn⟩ := DataW.trod_int Tryd.underlying2 h2
    obtain ⟨s, e3, z3, ws⟩ := DataW.trod_string Tryd.underlying9 h3
    simp only [List.cons.injEq, and_true] at e0 e1 e2 e3
    subst e0 e1 e2 e3
    refine ⟨⟨k, b, m, s⟩, rfl, ?_⟩
    rw [hx, z0, z1, z2, z3]
    rfl
theorem plain_addr {W : World} {a : Addr} {v : Value} (h : W.cell? (a.add 0) = some v) : a = ⟨a.block, a.off, none⟩ ∧ a.block < W.heap.size := by
  have hs := World.cell?_spot h
  obtain ⟨b, o, sp⟩ := a
  simp [Addr.add] at hs
  subst hs
  refine ⟨rfl, ?_⟩
  by_cases hb : b < W.heap.size
  · exact hb
  · have : W.heap[b]? = none := Array.getElem?_eq_none (by omega)
    simp [World.cell?, Addr.add, this] at h
set_option maxRecDepth 100000 in
theorem row_read {H : Type} {enc : TypeId × Value → H} {W : World} {fuel : Nat} {v : Value} {x : DataW H × List MemPlace} (hf : DataW.trod enc Tryd.prog W 0 (fun _ => true) true fuel 38 [v] = some x) :
    ∃ xs : List Val, RowV W v xs ∧ RowD xs x.1 := by
  rcases open_slice Tryd.underlying38 hf with ⟨hcs, hx⟩ | ⟨a, len, cap, m, n, D, Pl, hcs, hb, hl, hm, hmm, hx, hel⟩
  · simp only [List.cons.injEq, and_true] at hcs
    subst hcs
    exact ⟨[], ⟨by simp, .inl ⟨none, 0, rfl, rfl⟩⟩, .inl ⟨rfl, by rw [hx]⟩⟩
  · simp only [List.cons.injEq, and_true] at hcs
    subst hcs
    simp only [if_true] at hmm
    subst hmm
    rw [cOn24] at hel
    have each : ∀ i, i < len → ∃ x : Val, W.cell? (a.add (i * 4)) = some (.int .u8 x.k) ∧ W.cell? (a.add (i * 4 + 1)) = some (.bool x.b) ∧ W.cell? (a.add (i * 4 + 2)) = some (.int .i64 x.n) ∧ W.cell? (a.add (i * 4 + 3)) = some (.string x.s) ∧ D i = valD x := by
      intro i hi
      obtain ⟨cs, g1, g2⟩ := hel i (by omega)
      obtain ⟨_, hlen, hcell⟩ := World.cells?_some g1
      obtain ⟨x, rfl, hx⟩ := val_read g2 hlen
      have e0 := hcell 0 (by omega)
      have e1 := hcell 1 (by omega)
      have e2 := hcell 2 (by omega)
      have e3 := hcell 3 (by omega)
      rw [add_add] at e0 e1 e2 e3
      exact ⟨x, by simpa using e0, by simpa using e1, by simpa using e2, by simpa using e3, hx⟩
    haveI : Inhabited Val := ⟨⟨0, false, 0, ⟨#[]⟩⟩⟩
    obtain ⟨X, hX⟩ := choose_lt each
    have hD : (List.range len).map D = ((List.range len).map X).map valD := by
      rw [List.map_map]
      exact List.map_congr_left fun i hi => (hX i (by simpa using hi)).2.2.2.2
    refine ⟨(List.range len).map X, ⟨by simp; unfold maxLen at hm; omega, ?_⟩, .inr ⟨_, by rw [hx, hD]⟩⟩
    by_cases h0 : 0 < len
    · obtain ⟨hp, hbl⟩ := plain_addr (by simpa using (hX 0 h0).1)
      refine .inr ⟨a.block, a.off, m, by rw [← hp]; simp, ?_, hbl⟩
      intro j hj
      simp at hj
      have := hX j hj
      rw [hp] at this
      simp only [add_plain] at this
      simp only [List.getElem_map, List.getElem_range]
      exact ⟨this.1, by simpa [Nat.add_assoc] using this.2.1, by simpa [Nat.add_assoc] using this.2.2.1, by simpa [Nat.add_assoc] using this.2.2.2.1⟩
    · have : len = 0 := by omega
      subst this
      exact .inl ⟨some a, m, rfl, rfl⟩
set_option maxRecDepth 100000 in
theorem rows_read {H : Type} {enc : TypeId × Value → H} {W : World} {fuel : Nat} {v : Value} {x : DataW H × List MemPlace} (hf : DataW.trod enc Tryd.prog W 0 (fun _ => true) true fuel 35 [v] = some x) :
    ∃ rs : List (List Val), RowsL W v rs ∧ RowsD rs x.1 := by
  rcases open_slice1 Tryd.underlying35 cOn38 hf with ⟨hcs, hx⟩ | ⟨a, len, cap, m, n, V, D, Pl, hcs, hb, hl, hm, hmm, hx, hel⟩
  · simp only [List.cons.injEq, and_true] at hcs
    subst hcs
    exact ⟨[], ⟨none, 0, rfl, by simp, by simp⟩, .inl ⟨rfl, by rw [hx]⟩⟩
  · simp only [List.cons.injEq, and_true] at hcs
    subst hcs
    simp only [if_true] at hmm
    subst hmm
    have each : ∀ i, i < len → ∃ xs : List Val, W.cell? (a.add i) = some (V i) ∧ RowV W (V i) xs ∧ RowD xs (D i) := by
      intro i hi
      obtain ⟨g0, g1⟩ := hel i (by omega)
      obtain ⟨xs, h1, h2⟩ := row_read g1
      exact ⟨xs, g0, h1, h2⟩
    obtain ⟨X, hX⟩ := choose_lt each
    refine ⟨(List.range len).map X, ⟨some a, m, by simp, by simp; unfold maxLen at hm; omega, fun h0 => ?_⟩, .inr ⟨_, _, by rw [hx], by simp, fun j hj => ?_⟩⟩
    · simp at h0
      obtain ⟨hp, hbl⟩ := plain_addr (hX 0 h0).1
      refine ⟨a.block, a.off, by rw [← hp], hbl, fun j hj => ?_⟩
      simp at hj
      have h1 := (hX j hj).1
      rw [hp, add_plain] at h1
      exact ⟨V j, h1, by simpa using (hX j hj).2.1⟩
    · simp at hj
      refine ⟨D j, by rw [List.getElem?_map, List.getElem?_range hj]; rfl, ?_⟩
      simpa using (hX j hj).2.2
theorem weights_all {H : Type} {P : Program} {e : TypeId} : ∀ {ds : List (DataW H)} {d : DataW H}, d ∈ ds → ∀ n ∈ d.weights P e, n ∈ DataW.weightsAll P e ds
  | d0 :: ds, d, hd, n, hn => by
    simp only [DataW.weightsAll, List.mem_append]
    rcases List.mem_cons.1 hd with rfl | hd
    · exact .inl hn
    · exact .inr (weights_all hd n hn)
/-- How great rows are that are handed in. -/
theorem rows_small {H : Type} {ts : List TypeId} {ds : List (DataW H)} (h : (DataW.weightsEach Tryd.prog ts ds).all (· ≤ reachBytes) = true) {j : Nat} {d : DataW H} {rs : List (List Val)} (ht : ts[j]? = some 35) (hd : ds[j]? = some d) (hr : RowsD rs d) :
    (rs.length + 1) * 24 ≤ 140737488355328 ∧ ∀ r ∈ rs, r.length * 32 ≤ 140737488355328 := by
  have hb : reachBytes = 140737488351232 := rfl
  rcases hr with ⟨rfl, rfl⟩ | ⟨es, sp, rfl, hl, he⟩
  · exact ⟨by simp, by simp⟩
  · have h1 := sized_slice h ht hd Tryd.underlying35
    rw [bOn38, hl] at h1
    refine ⟨by omega, fun r hr => ?_⟩
    obtain ⟨i, hi, rfl⟩ := List.getElem_of_mem hr
    obtain ⟨e, e1, e2⟩ := he i hi
    rcases e2 with ⟨e2, _⟩ | ⟨sp', rfl⟩
    · rw [e2]; simp
    · have hm : (rs[i].length + sp'.length) * 32 ∈ DataW.weightsEach Tryd.prog ts ds := by
        refine DataW.weights_mem_each ht hd _ ?_
        simp only [DataW.weights, Tryd.underlying35, List.mem_cons, List.mem_append]
        refine .inr (.inl (weights_all (List.mem_of_getElem? e1) _ ?_))
        simp [DataW.weights, Tryd.underlying38, bOn24]
      have := List.all_eq_true.1 h _ hm
      simp only [decide_eq_true_eq] at this
      omega
end Go.Proofs.YtmagfjlpjjmknaaDoor
