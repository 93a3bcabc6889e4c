/- Streams that are received, and messages, as arguments. -/
import Derived.Test.YtcmiphgeakdonaaOb
import Derived.Test.YtcmiphgeakdonaaDa
namespace Go.Proofs.Ytcmiphgeakdonaa
open Go.ChangeShapes Go.WideShapes Go.ChangeAt Go.RowKit Go.Joins Go.Deep
set_option linter.unusedVariables false
set_option linter.unusedSimpArgs false
set_option maxRecDepth 100000 in
theorem reads_bat : ReadsAs rBat 91 3 := fun H enc W fuel cs x h hl hn => by
  obtain ⟨m0, y0, g0, l0⟩ := fld_at Try.underlying91 h hl 0 _ rfl 22 1 rfl 0 rfl (by kernel_rfl)
  obtain ⟨n0, e0, w0⟩ := int_at Try.underlying22 g0
  obtain ⟨k0, rfl, q0⟩ := u64_of w0
  have c0 := one_of e0
  obtain ⟨m1, y1, g1, l1⟩ := fld_at Try.underlying91 h hl 1 _ rfl 4 1 rfl 1 rfl (by kernel_rfl)
  obtain ⟨b1, e1⟩ := bool_at Try.underlying4 g1
  have c1 := one_of e1
  obtain ⟨m2, y2, g2, l2⟩ := fld_at Try.underlying91 h hl 2 _ rfl 30 1 rfl 2 rfl (by kernel_rfl)
  obtain ⟨v, ev⟩ := one_ex (cs := cs) (o := 2) (by omega)
  rw [ev] at g2
  obtain ⟨rs, hr⟩ := reads_list Try.underlying30 (by kernel_rfl) (by kernel_rfl) (by omega) reads_row g2 l2
  have c2 := one_of ev
  refine ⟨⟨k0, b1, rs⟩, v, list_ext (by rw [hn]; rfl) (fun j u hj => ?_), q0, hr⟩
  have hjl : j < 3 := (List.getElem?_eq_some_iff.1 hj).1
  match j, hjl with
  | 0, _ => cases hj; exact c0
  | 1, _ => cases hj; exact c1
  | 2, _ => cases hj; exact c2
set_option maxRecDepth 100000 in
theorem reads_in : ReadsAs rIn 68 9 := fun H enc W fuel cs x h hl hn => by
  obtain ⟨m0, y0, g0, l0⟩ := fld_at Try.underlying68 h hl 0 _ rfl 26 5 rfl 0 rfl (by kernel_rfl)
  obtain ⟨s, es, oks⟩ := reads_st H enc W m0 _ y0 g0 l0 (len_in (by omega))
  obtain ⟨m2, y2, g2, l2⟩ := fld_at Try.underlying68 h hl 1 _ rfl 22 1 rfl 5 rfl (by kernel_rfl)
  obtain ⟨n2, e2, w2⟩ := int_at Try.underlying22 g2
  obtain ⟨k2, rfl, q2⟩ := u64_of w2
  obtain ⟨m1, y1, g1, l1⟩ := fld_at Try.underlying68 h hl 2 _ rfl 66 1 rfl 6 rfl (by kernel_rfl)
  obtain ⟨v, ev⟩ := one_ex (cs := cs) (o := 6) (by omega)
  rw [ev] at g1
  obtain ⟨bs, hb⟩ := reads_list Try.underlying66 (by kernel_rfl) (by kernel_rfl) (by omega) reads_bat g1 l1
  obtain ⟨m3, y3, g3, l3⟩ := fld_at Try.underlying68 h hl 3 _ rfl 30 1 rfl 7 rfl (by kernel_rfl)
  obtain ⟨u, eu⟩ := one_ex (cs := cs) (o := 7) (by omega)
  rw [eu] at g3
  obtain ⟨rs, hr⟩ := reads_list Try.underlying30 (by kernel_rfl) (by kernel_rfl) (by omega) reads_row g3 l3
  obtain ⟨m4, y4, g4, l4⟩ := fld_at Try.underlying68 h hl 4 _ rfl 4 1 rfl 8 rfl (by kernel_rfl)
  obtain ⟨b4, e4⟩ := bool_at Try.underlying4 g4
  have c5 := one_of e2
  have c6 := one_of ev
  have c7 := one_of eu
  have c8 := one_of e4
  have cS : ∀ j u, ([.int .u64 (s.qb : Int), .int .u64 (s.qn : Int), .int .i64 s.at_, .int .i64 s.fr, .int .i64 s.tq] : List Value)[j]? = some u → cs[0 + j]? = some u := fun j u hu => in_of (by rw [es]; exact hu)
  refine ⟨⟨s, k2, bs, rs, b4⟩, v, u, list_ext (by rw [hn]; rfl) (fun j u hj => ?_), ⟨oks, q2⟩, hb, hr⟩
  have hjl : j < 9 := (List.getElem?_eq_some_iff.1 hj).1
  match j, hjl with
  | 0, _ => cases hj; exact cS 0 _ rfl
  | 1, _ => cases hj; exact cS 1 _ rfl
  | 2, _ => cases hj; exact cS 2 _ rfl
  | 3, _ => cases hj; exact cS 3 _ rfl
  | 4, _ => cases hj; exact cS 4 _ rfl
  | 5, _ => cases hj; exact c5
  | 6, _ => cases hj; exact c6
  | 7, _ => cases hj; exact c7
  | 8, _ => cases hj; exact c8
set_option maxRecDepth 100000 in
theorem reads_ms : ReadsAs (fun K W cs y => rMs K W cs y ∧ y.k < 256) 62 47 := fun H enc W fuel cs x h hl hn => by
  obtain ⟨m0, y0, g0, l0⟩ := fld_at Try.underlying62 h hl 0 _ rfl 41 1 rfl 0 rfl (by kernel_rfl)
  obtain ⟨n0, e0, w0⟩ := int_at Try.underlying41 g0
  obtain ⟨k0, rfl, q0⟩ := u8_of w0
  obtain ⟨m2, y2, g2, l2⟩ := fld_at Try.underlying62 h hl 2 _ rfl 26 5 rfl 2 rfl (by kernel_rfl)
  obtain ⟨s, es, oks⟩ := reads_st H enc W m2 _ y2 g2 l2 (len_in (by omega))
  obtain ⟨m7, y7, g7, l7⟩ := fld_at Try.underlying62 h hl 7 _ rfl 22 1 rfl 37 rfl (by kernel_rfl)
  obtain ⟨n7, e7, w7⟩ := int_at Try.underlying22 g7
  obtain ⟨k7, rfl, q7⟩ := u64_of w7
  obtain ⟨m8, y8, g8, l8⟩ := fld_at Try.underlying62 h hl 8 _ rfl 4 1 rfl 38 rfl (by kernel_rfl)
  obtain ⟨b8, e8⟩ := bool_at Try.underlying4 g8
  obtain ⟨m9, y9, g9, l9⟩ := fld_at Try.underlying62 h hl 9 _ rfl 30 1 rfl 39 rfl (by kernel_rfl)
  obtain ⟨v, ev⟩ := one_ex (cs := cs) (o := 39) (by omega)
  rw [ev] at g9
  obtain ⟨rs, hr⟩ := reads_list Try.underlying30 (by kernel_rfl) (by kernel_rfl) (by omega) reads_row g9 l9
  obtain ⟨q, c, rfl, _⟩ := id hr
  have cS : ∀ j u, ([.int .u64 (s.qb : Int), .int .u64 (s.qn : Int), .int .i64 s.at_, .int .i64 s.fr, .int .i64 s.tq] : List Value)[j]? = some u → cs[2 + j]? = some u := fun j u hu => in_of (by rw [es]; exact hu)
  exact ⟨⟨k0, s, k7, b8, rs⟩, ⟨hn, one_of e0, cS 0 _ rfl, cS 1 _ rfl, cS 2 _ rfl, cS 3 _ rfl, cS 4 _ rfl, one_of e7, one_of e8, ⟨q, c, one_of ev, hr⟩, q7, oks⟩, q0⟩
set_option maxRecDepth 100000 in
theorem open_in {H : Type} {enc : TypeId × Value → H} {W : World} {base : Nat} {v : Value} {d : DataW H} {ps : List MemPlace} (hv : Value.okWide Try.prog W .any base 68 v) (h : DataW.Trod enc Try.prog W 0 (fun _ => true) true 68 v d ps) (hl : Lim 68 d) : ∃ (cs : List Value) (x : In_), v = .agg cs.toArray ∧ rIn (fun b => b < W.heap.size) W cs x := by
  obtain ⟨cs, rfl, hsz⟩ := okWide_struct Try.underlying68 hv
  rw [show Try.prog.cellsOf 68 = 9 by kernel_rfl] at hsz
  obtain ⟨fu, hfu⟩ := h
  obtain ⟨x, hx⟩ := reads_in H enc W fu cs.toList (d, ps) hfu hl (by simpa using hsz)
  exact ⟨cs.toList, x, by simp, hx⟩
set_option maxRecDepth 100000 in
theorem open_ms {H : Type} {enc : TypeId × Value → H} {W : World} {base : Nat} {v : Value} {d : DataW H} {ps : List MemPlace} (hv : Value.okWide Try.prog W .any base 62 v) (h : DataW.Trod enc Try.prog W 0 (fun _ => true) true 62 v d ps) (hl : Lim 62 d) : ∃ (cs : List Value) (y : Ms), v = .agg cs.toArray ∧ rMs (fun b => b < W.heap.size) W cs y ∧ y.k < 256 := by
  obtain ⟨cs, rfl, hsz⟩ := okWide_struct Try.underlying62 hv
  rw [show Try.prog.cellsOf 62 = 47 by kernel_rfl] at hsz
  obtain ⟨fu, hfu⟩ := h
  obtain ⟨x, hx⟩ := reads_ms H enc W fu cs.toList (d, ps) hfu hl (by simpa using hsz)
  exact ⟨cs.toList, x, by simp, hx⟩
end Go.Proofs.Ytcmiphgeakdonaa
