/- Windows and their numbers as arguments. -/
import Derived.Test.YtajomnfeicfdlaaGreatDoorOrOs
import Derived.Test.YtajomnfeicfdlaaGreatDoorIaIbIcIdIeIfIgIhIl
namespace Go.Proofs.YtajomnfeicfdlaaGreatDoor
open Go.ChangeShapes Go.WideShapes Go.ChangeAt Go.RowKit Go.Joins Go.Deep
set_option linter.unusedVariables false
set_option linter.unusedSimpArgs false
theorem cap_of {H : Type} {enc : TypeId × Value → H} {W : World} {t e fuel : Nat} {v : Value} {x : DataW H × List MemPlace} (hu : Tryz.prog.underlying t = some (.slice e)) (h : DataW.trod enc Tryz.prog W 0 (fun _ => true) true fuel t [v] = some x) : CapIs v := by
 rcases open_slice hu h with ⟨hcs, _⟩ | ⟨a, len, cap, m, n, D, Pl, hcs, hb, hle, _⟩
 ·simp only [List.cons.injEq, and_true] at hcs
  subst hcs
  intro q n c e
  cases e
  exact Nat.le_refl _
 ·simp only [List.cons.injEq, and_true] at hcs
  subst hcs
  intro q n c e
  cases e
  exact hle
theorem two_of {cs : List Value} {a b : Value} (hn : cs.length = 2) (h0 : cs[0]? = some a) (h1 : cs[1]? = some b) : cs = [a, b] := by
 match cs, hn with
 | [x, y], _ => simp at h0 h1; rw [h0, h1]
theorem reads_qid : ReadsAs rQid 27 2 := fun H enc W fuel cs x h hl hn => by
 obtain ⟨m0, y0, g0, l0⟩ := fld_at Tryz.underlying27 h hl 0 _ rfl 25 1 rfl 0 rfl (by kernel_rfl)
 obtain ⟨n0, e0, w0⟩ := int_at Tryz.underlying25 g0
 obtain ⟨m1, y1, g1, l1⟩ := fld_at Tryz.underlying27 h hl 1 _ rfl 25 1 rfl 1 rfl (by kernel_rfl)
 obtain ⟨n1, e1, w1⟩ := int_at Tryz.underlying25 g1
 exact ⟨(n0, n1), two_of hn (one_of e0) (one_of e1)⟩
theorem weights_of {H : Type} {ts : List TypeId} {ds : List (DataW H)} (h : (DataW.weightsEach Tryz.prog ts ds).all (· ≤ reachBytes) = true) {j : Nat} {t : TypeId} {d : DataW H} (ht : ts[j]? = some t) (hd : ds[j]? = some d) : ∀ n ∈ d.weights Tryz.prog t, n ≤ reachBytes := fun n hn => by
 have h3 : n ∈ DataW.weightsEach Tryz.prog ts ds := DataW.weights_mem_each (P := Tryz.prog) (j := j) ht hd n hn
 have := List.all_eq_true.1 h n h3
 simpa using this
theorem lim_of {H : Type} {ts : List TypeId} {ds : List (DataW H)} (h : (DataW.weightsEach Tryz.prog ts ds).all (· ≤ reachBytes) = true) {j : Nat} {t : TypeId} {d : DataW H} (ht : ts[j]? = some t) (hd : ds[j]? = some d) : Lim t d := weights_of h ht hd
set_option maxRecDepth 100000 in
theorem open_qid {H : Type} {enc : TypeId × Value → H} {W : World} {base : Nat} {v : Value} {d : DataW H} {ps : List MemPlace} (hv : Value.okWide Tryz.prog W .any base 27 v) (h : DataW.Trod enc Tryz.prog W 0 (fun _ => true) true 27 v d ps) (hl : Lim 27 d) : ∃ y : Int × Int, v = .agg #[.int .u64 y.1, .int .u64 y.2] := by
 obtain ⟨cs, rfl, hsz⟩ := okWide_struct Tryz.underlying27 hv
 rw [show Tryz.prog.cellsOf 27 = 2 by kernel_rfl] at hsz
 obtain ⟨fu, hfu⟩ := h
 obtain ⟨y, hy⟩ := reads_qid H enc W fu cs.toList (d, ps) hfu hl (by simpa using hsz)
 exact ⟨y, by rw [show cs = #[.int .u64 y.1, .int .u64 y.2] from Array.ext' hy]⟩
set_option maxRecDepth 100000 in
theorem open_qids {H : Type} {enc : TypeId × Value → H} {W : World} {base : Nat} {v : Value} {d : DataW H} {ps : List MemPlace} (hv : Value.okWide Tryz.prog W .any base 22 v) (h : DataW.Trod enc Tryz.prog W 0 (fun _ => true) true 22 v d ps) (hl : Lim 22 d) : ∃ xs : List (Int × Int), ListIs rQid 2 16 (fun b => b < W.heap.size) W v xs ∧ CapIs v := by
 obtain ⟨a, len, cap, rfl⟩ := okWide_slice Tryz.underlying22 hv
 obtain ⟨fu, hfu⟩ := h
 obtain ⟨xs, hx⟩ := reads_list (x := (d, ps)) Tryz.underlying22 (by kernel_rfl) (by kernel_rfl) (by omega) reads_qid hfu hl
 exact ⟨xs, hx, cap_of Tryz.underlying22 hfu⟩
set_option maxRecDepth 100000 in
theorem open_win {H : Type} {enc : TypeId × Value → H} {W : World} {base : Nat} {v : Value} {d : DataW H} {ps : List MemPlace} (hv : Value.okWide Tryz.prog W .any base 24 v) (h : DataW.Trod enc Tryz.prog W 0 (fun _ => true) true 24 v d ps) (hl : Lim 24 d) : ∃ (u : Value) (xs : List (Int × Int)), v = .agg #[u] ∧ ListIs rQid 2 16 (fun b => b < W.heap.size) W u xs ∧ CapIs u := by
 obtain ⟨cs, rfl, hsz⟩ := okWide_struct Tryz.underlying24 hv
 rw [show Tryz.prog.cellsOf 24 = 1 by kernel_rfl] at hsz
 obtain ⟨fu, hfu⟩ := h
 obtain ⟨m0, y0, g0, l0⟩ := fld_at (cs := cs.toList) (x := (d, ps)) Tryz.underlying24 hfu hl 0 _ rfl 22 1 rfl 0 rfl (by kernel_rfl)
 obtain ⟨u, hu⟩ : ∃ u, cs.toList = [u] := by
  match h : cs.toList, (by simpa using hsz : cs.toList.length = 1) with
  | [u], _ => exact ⟨u, rfl⟩
 rw [hu] at g0
 obtain ⟨xs, hx⟩ := reads_list Tryz.underlying22 (by kernel_rfl) (by kernel_rfl) (by omega) reads_qid g0 l0
 exact ⟨u, xs, by rw [show cs = #[u] from Array.ext' hu], hx, cap_of Tryz.underlying22 g0⟩
/-- The tables of unicode/utf8 lie in the first two blocks. -/
theorem tabs_lt {W : World} (hT : Lib.Utf8Tabs 0 1 W) : 1 < W.heap.size := by
 have := (hT.2 0 (by omega)).1
 by_cases hb : 1 < W.heap.size
 ·exact hb
 ·have e : W.heap[1]? = none := Array.getElem?_eq_none (by omega)
  simp [World.cell?, e] at this
end Go.Proofs.YtajomnfeicfdlaaGreatDoor
