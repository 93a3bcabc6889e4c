/- Windows and their numbers as arguments. -/
import Derived.Test.YtajomnfeicfdlaaGreatDoorOrOs
import Derived.Test.YtajomnfeicfdlaaGreatDoorIaIbIcIdIeIfIgIhIl
import Derived.Test.YtajomnfeicfdlaaGreatDoorIn
namespace Go.Proofs.YtajomnfeicfdlaaGreatDoor
open Go.ChangeShapes Go.WideShapes Go.ChangeAt Go.RowKit Go.Joins Go.Deep
set_option linter.unusedVariables false
set_option linter.unusedSimpArgs false
theorem cap_of {H : Type} {enc : TypeId × Value → H} {W : World} {t e fuel : Nat} {v : Value} {x : DataW H × List MemPlace} (hu : Tryz.prog.underlying t = some (.slice e)) (h : DataW.trod enc Tryz.prog W 0 (fun _ => true) true fuel t [v] = some x) : CapIs v := by
 rcases open_slice hu h with ⟨hcs, _⟩ | ⟨a, len, cap, m, n, D, Pl, hcs, hb, hle, _⟩
 ·simp only [List.cons.injEq, and_true] at hcs
  subst hcs
  intro q n c e
  cases e
  exact Nat.le_refl _
 ·simp only [List.cons.injEq, and_true] at hcs
  subst hcs
  intro q n c e
  cases e
  exact hle
theorem two_of {cs : List Value} {a b : Value} (hn : cs.length = 2) (h0 : cs[0]? = some a) (h1 : cs[1]? = some b) : cs = [a, b] := by
 match cs, hn with
 | [x, y], _ => simp at h0 h1; rw [h0, h1]
theorem reads_qid : ReadsAs rQid 27 2 := fun H enc W fuel cs x h hl hn => by
 obtain ⟨m0, y0, g0, l0⟩ := fld_at Tryz.underlying27 h hl 0 _ rfl 25 1 rfl 0 rfl (by kernel_rfl)
 obtain ⟨n0, e0, w0⟩ := int_at Tryz.underlying25 g0
 obtain ⟨m1, y1, g1, l1⟩ := fld_at Tryz.underlying27 h hl 1 _ rfl 25 1 rfl 1 rfl (by kernel_rfl)
 obtain ⟨n1, e1, w1⟩ := int_at Tryz.underlying25 g1
 exact ⟨(n0, n1), two_of hn (one_of e0) (one_of e1)⟩
theorem weights_of {H : Type} {ts : List TypeId} {ds : List (DataW H)} (h : (DataW.weightsEach Tryz.prog ts ds).all (· ≤ reachBytes) = true) {j : Nat} {t : TypeId} {d : DataW H} (ht : ts[j]? = some t) (hd : ds[j]? = some d) : ∀ n ∈ d.weights Tryz.prog t, n ≤ reachBytes := fun n hn => by
 have h3 : n ∈ DataW.weightsEach Tryz.prog ts ds := DataW.weights_mem_each (P := Tryz.prog) (j := j) ht hd n hn
 have := List.all_eq_true.1 h n h3
 simpa using this
theorem lim_of {H : Type} {ts : List TypeId} {ds : List (DataW H)} (h : (DataW.weightsEach Tryz.prog ts ds).all (· ≤ reachBytes) = true) {j : Nat} {t : TypeId} {d : DataW H} (ht : ts[j]? = some t) (hd : ds[j]? = some d) : Lim t d := weights_of h ht hd
set_option maxRecDepth 100000 in
theorem open_qid {H : Type} {enc : TypeId × Value → H} {W : World} {base : Nat} {v : Value} {d : DataW H} {ps : List MemPlace} (hv : Value.okWide Tryz.prog W .any base 27 v) (h : DataW.Trod enc Tryz.prog W 0 (fun _ => true) true 27 v d ps) (hl : Lim 27 d) : ∃ y : Int × Int, v = .agg #[.int .u64 y.1, .int .u64 y.2] := by
 obtain ⟨cs, rfl, hsz⟩ := okWide_struct Tryz.underlying27 hv
 rw [show Tryz.prog.cellsOf 27 = 2 by kernel_rfl] at hsz
 obtain ⟨fu, hfu⟩ := h
 obtain ⟨y, hy⟩ := reads_qid H enc W fu cs.toList (d, ps) hfu hl (by simpa using hsz)
 exact ⟨y, by rw [show cs = #[.int .u64 y.1, .int .u64 y.2] from Array.ext' hy]⟩
set_option maxRecDepth 100000 in
theorem open_qids {H : Type} {enc : TypeId × Value → H} {W : World} {base : Nat} {v : Value} {d : DataW H} {ps : List MemPlace} (hv : Value.okWide Tryz.prog W .any base 22 v) (h : DataW.Trod enc Tryz.prog W 0 (fun _ => true) true 22 v d ps) (hl : Lim 22 d) : ∃ xs : List (Int × Int), ListIs rQid 2 16 (fun b => b < W.heap.size) W v xs ∧ CapIs v := by
 obtain ⟨a, len, cap, rfl⟩ := okWide_slice Tryz.underlying22 hv
 obtain ⟨fu, hfu⟩ := h
 obtain ⟨xs, hx⟩ := reads_list (x := (d, ps)) Tryz.underlying22 (by kernel_rfl) (by kernel_rfl) (by omega) reads_qid hfu hl
 exact ⟨xs, hx, cap_of Tryz.underlying22 hfu⟩
set_option maxRecDepth 100000 in
theorem open_win {H : Type} {enc : TypeId × Value → H} {W : World} {base : Nat} {v : Value} {d : DataW H} {ps : List MemPlace} (hv : Value.okWide Tryz.prog W .any base 24 v) (h : DataW.Trod enc Tryz.prog W 0 (fun _ => true) true 24 v d ps) (hl : Lim 24 d) : ∃ (u : Value) (xs : List (Int × Int)), v = .agg #[u] ∧ ListIs rQid 2 16 (fun b => b < W.heap.size) W u xs ∧ CapIs u := by
 obtain ⟨cs, rfl, hsz⟩ := okWide_struct Tryz.underlying24 hv
 rw [show Tryz.prog.cellsOf 24 = 1 by kernel_rfl] at hsz
 obtain ⟨fu, hfu⟩ := h
 obtain ⟨m0, y0, g0, l0⟩ := fld_at (cs := cs.toList) (x := (d, ps)) Tryz.underlying24 hfu hl 0 _ rfl 22 1 rfl 0 rfl (by kernel_rfl)
 obtain ⟨u, hu⟩ : ∃ u, cs.toList = [u] := by
  match h : cs.toList, (by simpa using hsz : cs.toList.length = 1) with
  | [u], _ => exact ⟨u, rfl⟩
 rw [hu] at g0
 obtain ⟨xs, hx⟩ := reads_list Tryz.underlying22 (by kernel_rfl) (by kernel_rfl) (by omega) reads_qid g0 l0
 exact ⟨u, xs, by rw [show cs = #[u] from Array.ext' hu], hx, cap_of Tryz.underlying22 g0⟩
/-- The tables of unicode/utf8 lie in the first two blocks. -/
theorem tabs_lt {W : World} (hT : Lib.Utf8Tabs 0 1 W) : 1 < W.heap.size := by
 have := (hT.2 0 (by omega)).1
 by_cases hb : 1 < W.heap.size
 ·exact hb
 ·have e : W.heap[1]? = none := Array.getElem?_eq_none (by omega)
  simp [World.cell?, e] at this
end Go.Proofs.YtajomnfeicfdlaaGreatDoor
/- Outboxes, messages, files and numbers as arguments. -/
namespace Go.Proofs.YtajomnfeicfdlaaGreatDoor
open Go.ChangeShapes Go.WideShapes Go.ChangeAt Go.RowKit Go.Joins Go.Deep
set_option linter.unusedVariables false
set_option linter.unusedSimpArgs false
set_option maxRecDepth 100000 in
theorem reads_ask : ReadsAs rAsk 73 48 := fun H enc W fuel cs x h hl hn => by
 obtain ⟨m0, y0, g0, l0⟩ := fld_at Tryz.underlying73 h hl 0 _ rfl 3 1 rfl 0 rfl (by kernel_rfl)
 obtain ⟨n0, e0, w0⟩ := int_at Tryz.underlying3 g0
 obtain ⟨m1, y1, g1, l1⟩ := fld_at Tryz.underlying73 h hl 1 _ rfl 63 47 rfl 1 rfl (by kernel_rfl)
 obtain ⟨m, hm⟩ := reads_msg g1 l1 (len_in (by omega))
 refine ⟨(n0, m), (cs.drop 1).take 47, ?_, len_in (by omega), i64_of w0, hm⟩
 have h0 := one_of e0
 match cs, hn, h0 with
 | c :: cs, hn, h0 =>
  simp at h0 hn
  rw [h0]
  simp only [List.drop_succ_cons, List.drop_zero]
  rw [List.take_of_length_le (by omega)]
set_option maxRecDepth 100000 in
theorem open_outbox {H : Type} {enc : TypeId × Value → H} {W : World} {base : Nat} {v : Value} {d : DataW H} {ps : List MemPlace} (hv : Value.okWide Tryz.prog W .any base 38 v) (h : DataW.Trod enc Tryz.prog W 0 (fun _ => true) true 38 v d ps) (hl : Lim 38 d) : ∃ (u : Value) (xs : List (Int × Mg)), v = .agg #[u] ∧ ListIs rAsk 48 648 (fun b => b < W.heap.size) W u xs := by
 obtain ⟨cs, rfl, hsz⟩ := okWide_struct Tryz.underlying38 hv
 rw [show Tryz.prog.cellsOf 38 = 1 by kernel_rfl] at hsz
 obtain ⟨fu, hfu⟩ := h
 obtain ⟨m0, y0, g0, l0⟩ := fld_at (cs := cs.toList) (x := (d, ps)) Tryz.underlying38 hfu hl 0 _ rfl 36 1 rfl 0 rfl (by kernel_rfl)
 obtain ⟨u, hu⟩ : ∃ u, cs.toList = [u] := by
  match h : cs.toList, (by simpa using hsz : cs.toList.length = 1) with
  | [u], _ => exact ⟨u, rfl⟩
 rw [hu] at g0
 obtain ⟨xs, hx⟩ := reads_list Tryz.underlying36 (by kernel_rfl) (by kernel_rfl) (by omega) reads_ask g0 l0
 exact ⟨u, xs, by rw [show cs = #[u] from Array.ext' hu], hx⟩
set_option maxRecDepth 100000 in
theorem open_msg {H : Type} {enc : TypeId × Value → H} {W : World} {base : Nat} {v : Value} {d : DataW H} {ps : List MemPlace} (hv : Value.okWide Tryz.prog W .any base 63 v) (h : DataW.Trod enc Tryz.prog W 0 (fun _ => true) true 63 v d ps) (hl : Lim 63 d) : ∃ (cl : List Value) (m : Mg), v = .agg cl.toArray ∧ cl.length = 47 ∧ MsgIs (fun b => b < W.heap.size) W cl.toArray m := by
 obtain ⟨cs, rfl, hsz⟩ := okWide_struct Tryz.underlying63 hv
 rw [show Tryz.prog.cellsOf 63 = 47 by kernel_rfl] at hsz
 obtain ⟨fu, hfu⟩ := h
 have hcl : cs.toList.length = 47 := by simpa using hsz
 obtain ⟨m, hm⟩ := reads_msg (x := (d, ps)) hfu hl hcl
 exact ⟨cs.toList, m, by simp, hcl, hm⟩
set_option maxRecDepth 100000 in
theorem open_whole {H : Type} {enc : TypeId × Value → H} {W : World} {base : Nat} {v : Value} {d : DataW H} {ps : List MemPlace} (hv : Value.okWide Tryz.prog W .any base 3 v) (h : DataW.Trod enc Tryz.prog W 0 (fun _ => true) true 3 v d ps) : ∃ n, v = .int .i64 n ∧ I64 n := by
 obtain ⟨n, rfl⟩ := okWide_int Tryz.underlying3 hv
 obtain ⟨fu, hfu⟩ := h
 obtain ⟨m, e, w⟩ := int_at Tryz.underlying3 hfu
 have e' : n = m := by simpa [Value.cells] using e
 subst e'
 exact ⟨n, rfl, i64_of w⟩
theorem six_of {cs : List Value} {a b c d e f : Value} (hn : cs.length = 6) (h0 : cs[0]? = some a) (h1 : cs[1]? = some b) (h2 : cs[2]? = some c) (h3 : cs[3]? = some d) (h4 : cs[4]? = some e) (h5 : cs[5]? = some f) : cs = [a, b, c, d, e, f] := by
 match cs, hn with
 | [_, _, _, _, _, _], _ => simp at h0 h1 h2 h3 h4 h5; rw [h0, h1, h2, h3, h4, h5]
set_option maxRecDepth 100000 in
theorem open_file {H : Type} {enc : TypeId × Value → H} {W : World} {base : Nat} {v : Value} {d : DataW H} {ps : List MemPlace} (hv : Value.okWide Tryz.prog W .any base 44 v) (h : DataW.Trod enc Tryz.prog W 0 (fun _ => true) true 44 v d ps) (hl : Lim 44 d) : ∃ (f : Fl) (vc vr : Value), v = .agg #[.string f.t, .int .u64 (f.v.b : Int), .int .u64 (f.v.l : Int), .int .i64 f.s, vc, vr] ∧ FileIs (fun b => b < W.heap.size) W vc vr f := by
 obtain ⟨cs, rfl, hsz⟩ := okWide_struct Tryz.underlying44 hv
 rw [show Tryz.prog.cellsOf 44 = 6 by kernel_rfl] at hsz
 obtain ⟨fu, hfu⟩ := h
 have hn : cs.toList.length = 6 := by simpa using hsz
 obtain ⟨m0, y0, g0, l0⟩ := fld_at (cs := cs.toList) (x := (d, ps)) Tryz.underlying44 hfu hl 0 _ rfl 9 1 rfl 0 rfl (by kernel_rfl)
 obtain ⟨s0, e0, w0⟩ := str_at Tryz.underlying9 g0 l0
 obtain ⟨m1, y1, g1, l1⟩ := fld_at (cs := cs.toList) (x := (d, ps)) Tryz.underlying44 hfu hl 1 _ rfl 40 2 rfl 1 rfl (by kernel_rfl)
 obtain ⟨n0, z0, f0, k0⟩ := fld_at Tryz.underlying40 g1 l1 0 _ rfl 25 1 rfl 0 rfl (by kernel_rfl)
 obtain ⟨i0, a0, b0⟩ := int_at Tryz.underlying25 f0
 obtain ⟨n1, z1, f1, k1⟩ := fld_at Tryz.underlying40 g1 l1 1 _ rfl 25 1 rfl 1 rfl (by kernel_rfl)
 obtain ⟨i1, a1, b1⟩ := int_at Tryz.underlying25 f1
 rw [dt (by omega)] at a0 a1
 obtain ⟨u0, rfl, o0⟩ := u64_of b0
 obtain ⟨u1, rfl, o1⟩ := u64_of b1
 obtain ⟨m2, y2, g2, l2⟩ := fld_at (cs := cs.toList) (x := (d, ps)) Tryz.underlying44 hfu hl 2 _ rfl 3 1 rfl 3 rfl (by kernel_rfl)
 obtain ⟨s2, e2, w2⟩ := int_at Tryz.underlying3 g2
 obtain ⟨m3, y3, g3, l3⟩ := fld_at (cs := cs.toList) (x := (d, ps)) Tryz.underlying44 hfu hl 3 _ rfl 41 1 rfl 4 rfl (by kernel_rfl)
 obtain ⟨x3, v3, e3, w3⟩ := sl44 _ _ _ _ _ _ g3 l3 (len_in (by omega))
 obtain ⟨m4, y4, g4, l4⟩ := fld_at (cs := cs.toList) (x := (d, ps)) Tryz.underlying44 hfu hl 4 _ rfl 42 1 rfl 5 rfl (by kernel_rfl)
 obtain ⟨x4, v4, e4, w4⟩ := sl43 _ _ _ _ _ _ g4 l4 (len_in (by omega))
 refine ⟨⟨s0, ⟨u0, u1⟩, s2, x3, x4⟩, v3, v4, ?_, ⟨w0, ⟨o0, o1⟩, i64_of w2, w3, w4⟩⟩
 have := six_of hn (one_of e0) (one_of a0) (one_of a1) (one_of e2) (one_of e3) (one_of e4)
 rw [show cs = #[.string s0, .int .u64 (u0 : Int), .int .u64 (u1 : Int), .int .i64 s2, v3, v4] from Array.ext' this]
end Go.Proofs.YtajomnfeicfdlaaGreatDoor
