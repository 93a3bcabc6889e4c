/- Nets as arguments: how they are read, and how great they may be. -/
import Derived.Test.YtnfgfbmkeiimlaaNm
import Derived.ProofKit
import Derived.OpenShut
import Derived.Lib.SmallJoins
import Derived.Deep.Slices
import Derived.SizedLaws
namespace Go.Proofs.Ytnfgfbmkeiimlaa
open Go.ChangeShapes Go.WideShapes Go.ChangeAt Go.RowKit Go.Joins Go.Deep
open Go.ChangeMaps (open_string shut_string)
set_option linter.unusedVariables false
set_option linter.unusedSimpArgs false
theorem cO30 : Try.prog.cellsOf 30 = 3 := by kernel_rfl
theorem cO3 : Try.prog.cellsOf 3 = 1 := by kernel_rfl
theorem cO9 : Try.prog.cellsOf 9 = 1 := by kernel_rfl
theorem cO22 : Try.prog.cellsOf 22 = 1 := by kernel_rfl
theorem cO24 : Try.prog.cellsOf 24 = 1 := by kernel_rfl
theorem bO30 : Try.prog.bytesOf 30 = 32 := by kernel_rfl
/-- How a packet reads. -/
def packD {H : Type} (f : PK) : DataW H := .agg [.lit (.int .i64 f.f), .lit (.int .i64 f.t), .lit (.string f.x.data.toList)]
/-- How packets read. -/
def PacksD {H : Type} (fs : List PK) (d : DataW H) : Prop := (fs = [] ∧ d = .nil) ∨ ∃ sp, d = .slice (fs.map packD) sp
set_option maxRecDepth 100000 in
theorem pack_read {H : Type} {enc : TypeId × Value → H} {W : World} {fuel : Nat} {cs : List Value} {x : DataW H × List MemPlace} (h : DataW.trod enc Try.prog W 0 (fun _ => true) true fuel 30 cs = some x) (hl : cs.length = 3) :
    ∃ f : PK, cs = [.int .i64 f.f, .int .i64 f.t, .string f.x] ∧ x.1 = packD f := by
  match cs, hl with
  | [v0, v1, v2], _ =>
    obtain ⟨y0, y1, y2, n, hx, _, h0, h1, h2⟩ := trod_struct3 Try.underlying30 h
    simp only [cO9, cO3, List.drop_zero, List.drop_succ_cons, List.take_succ_cons, List.take_zero] at h0 h1 h2
    obtain ⟨m, e0, z0, _⟩ := DataW.trod_int Try.underlying3 h0
    obtain ⟨t, e1, z1, _⟩ := DataW.trod_int Try.underlying3 h1
    obtain ⟨s, e2, z2, _⟩ := DataW.trod_string Try.underlying9 h2
    simp only [List.cons.injEq, and_true] at e0 e1 e2
    subst e0 e1 e2
    refine ⟨⟨m, t, s⟩, rfl, ?_⟩
    rw [hx, z0, z1, z2]
    rfl
theorem plain_addr {W : World} {a : Addr} {v : Value} (h : W.cell? (a.add 0) = some v) : a = ⟨a.block, a.off, none⟩ ∧ a.block < W.heap.size := by
  have hs := World.cell?_spot h
  obtain ⟨b, o, sp⟩ := a
  simp [Addr.add] at hs
  subst hs
  refine ⟨rfl, ?_⟩
  by_cases hb : b < W.heap.size
  · exact hb
  · have : W.heap[b]? = none := Array.getElem?_eq_none (by omega)
    simp [World.cell?, Addr.add, this] at h
/-- Packets that are handed in, whatever their size. -/
def PreL (W : World) (v : Value) (fs : List PK) : Prop := ∃ p c, v = .slice p fs.length c ∧ fs.length ≤ c ∧ c ≤ 9223372036854775807 ∧ (p = none → c = 0) ∧ (0 < fs.length → ∃ b o, p = some ⟨b, o, none⟩ ∧ b < W.heap.size ∧ PsIs W b o fs)
set_option maxRecDepth 100000 in
theorem packs_read {H : Type} {enc : TypeId × Value → H} {W : World} {fuel : Nat} {v : Value} {x : DataW H × List MemPlace} (hf : DataW.trod enc Try.prog W 0 (fun _ => true) true fuel 22 [v] = some x) :
    ∃ fs : List PK, PreL W v fs ∧ PacksD fs x.1 := by
  rcases open_slice Try.underlying22 hf with ⟨hcs, hx⟩ | ⟨a, len, cap, m, n, D, Pl, hcs, hb, hl, hm, hmm, hx, hel⟩
  · simp only [List.cons.injEq, and_true] at hcs
    subst hcs
    exact ⟨[], ⟨none, 0, rfl, by simp, by omega, fun _ => rfl, by simp⟩, .inl ⟨rfl, by rw [hx]⟩⟩
  · simp only [List.cons.injEq, and_true] at hcs
    subst hcs
    simp only [if_true] at hmm
    subst hmm
    rw [cO30] at hel
    have each : ∀ i, i < len → ∃ x : PK, W.cell? (a.add (i * 3)) = some (.int .i64 x.f) ∧ W.cell? (a.add (i * 3 + 1)) = some (.int .i64 x.t) ∧ W.cell? (a.add (i * 3 + 2)) = some (.string x.x) ∧ D i = packD x := by
      intro i hi
      obtain ⟨cs, g1, g2⟩ := hel i (by omega)
      obtain ⟨_, hlen, hcell⟩ := World.cells?_some g1
      obtain ⟨x, rfl, hx⟩ := pack_read g2 hlen
      have e0 := hcell 0 (by omega)
      have e1 := hcell 1 (by omega)
      have e2 := hcell 2 (by omega)
      rw [add_add] at e0 e1 e2
      exact ⟨x, by simpa using e0, by simpa using e1, by simpa using e2, hx⟩
    haveI : Inhabited PK := ⟨⟨0, 0, ⟨#[]⟩⟩⟩
    obtain ⟨X, hX⟩ := choose_lt each
    have hD : (List.range len).map D = ((List.range len).map X).map packD := by
      rw [List.map_map]
      exact List.map_congr_left fun i hi => (hX i (by simpa using hi)).2.2.2
    refine ⟨(List.range len).map X, ⟨some a, m, by simp, by simp; omega, by unfold maxLen at hm; omega, (fun h => by cases h), fun h0 => ?_⟩, .inr ⟨_, by rw [hx, hD]⟩⟩
    simp at h0
    obtain ⟨hp, hbl⟩ := plain_addr (by simpa using (hX 0 h0).1)
    refine ⟨a.block, a.off, by rw [← hp], hbl, ?_⟩
    intro j hj
    simp at hj
    have := hX j hj
    rw [hp] at this
    simp only [add_plain] at this
    simp only [List.getElem_map, List.getElem_range]
    exact ⟨this.1, by simpa [Nat.add_assoc] using this.2.1, by simpa [Nat.add_assoc] using this.2.2.1⟩
theorem weights_all {H : Type} {P : Program} {e : TypeId} : ∀ {ds : List (DataW H)} {d : DataW H}, d ∈ ds → ∀ n ∈ d.weights P e, n ∈ DataW.weightsAll P e ds
  | d0 :: ds, d, hd, n, hn => by
    simp only [DataW.weightsAll, List.mem_append]
    rcases List.mem_cons.1 hd with rfl | hd
    · exact .inl hn
    · exact .inr (weights_all hd n hn)
theorem bsize (s : ByteArray) : s.data.toList.length = s.size := by simp
/-- How great packets are that are handed in. -/
theorem packs_small {H : Type} {fs : List PK} {d : DataW H} (hr : PacksD fs d) (h : ∀ n ∈ d.weights Try.prog 22, n ≤ reachBytes) : fs.length * 32 ≤ 140737488355328 ∧ SmallP fs := by
  have hb : reachBytes = 140737488351232 := rfl
  rcases hr with ⟨rfl, rfl⟩ | ⟨sp, rfl⟩
  · exact ⟨by simp, fun f hf => by simp at hf⟩
  · have h1 := h ((fs.map (packD (H := H))).length + sp.length |> (· * 32)) (by simp [DataW.weights, Try.underlying22, bO30])
    simp only [List.length_map] at h1
    refine ⟨by omega, fun f hf => ?_⟩
    have hm : packD (H := H) f ∈ fs.map packD := List.mem_map.2 ⟨f, hf, rfl⟩
    have e1 := h f.x.data.toList.length (by
      simp only [DataW.weights, Try.underlying22, List.mem_cons, List.mem_append]
      exact .inr (.inl (weights_all hm _ (by simp [packD, DataW.weights, Try.underlying30, DataW.weightsEach]))))
    rw [bsize] at e1
    omega
theorem PreL.packs {W : World} {v : Value} {fs : List PK} (h : PreL W v fs) (hs : fs.length * 32 ≤ 140737488355328 ∧ SmallP fs) : PsL W v fs := by
  obtain ⟨p, c, e, h1, h2, h3, hp⟩ := h
  exact ⟨p, c, e, h1, h2, hs.1, hs.2, h3, hp⟩
set_option maxRecDepth 100000 in
/-- A net that is handed in. -/
theorem open_net {H : Type} {enc : TypeId × Value → H} {W : World} {base : Nat} {v : Value} {d : DataW H} {ps : List MemPlace} (hv : Value.okWide Try.prog W .any base 24 v) (h : DataW.Trod enc Try.prog W 0 (fun _ => true) true 24 v d ps) :
    ∃ (fs : List PK) (v0 : Value), v = .agg #[v0] ∧ PreL W v0 fs ∧ ((∀ n ∈ d.weights Try.prog 24, n ≤ reachBytes) → fs.length * 32 ≤ 140737488355328 ∧ SmallP fs) := by
  obtain ⟨cs, rfl, hsz⟩ := okWide_struct Try.underlying24 hv
  obtain ⟨fuel, hf⟩ := h
  obtain ⟨y0, n, hx, hl, h0⟩ := trod_struct1 Try.underlying24 hf
  simp only [Value.cells] at hl h0
  rw [cO24] at hl
  obtain ⟨v0, hv0⟩ : ∃ v0, cs = #[v0] := by
    have h1 : cs.size = 1 := by simpa using hl
    exact ⟨cs[0], Array.ext (by simp [h1]) (fun i hi hi2 => by simp at hi2; subst hi2; simp)⟩
  subst hv0
  simp only [cO22, List.drop_zero, List.take_succ_cons, List.take_zero] at h0
  obtain ⟨fs, hp, hd⟩ := packs_read h0
  simp only [Prod.mk.injEq] at hx
  refine ⟨fs, v0, rfl, hp, fun hw => packs_small hd (fun n hn => hw n ?_)⟩
  rw [hx.1]
  simp only [DataW.weights, Try.underlying24, DataW.weightsEach, List.mem_append]
  simp only [List.map_cons, DataW.weightsEach, List.mem_append]
  exact .inl hn
theorem weights_of {H : Type} {ts : List TypeId} {ds : List (DataW H)} (h : (DataW.weightsEach Try.prog ts ds).all (· ≤ reachBytes) = true) {j : Nat} {t : TypeId} {d : DataW H} (ht : ts[j]? = some t) (hd : ds[j]? = some d) : ∀ n ∈ d.weights Try.prog t, n ≤ reachBytes := fun n hn => by
  have := List.all_eq_true.1 h _ (DataW.weights_mem_each ht hd n hn)
  simpa using this
end Go.Proofs.Ytnfgfbmkeiimlaa
