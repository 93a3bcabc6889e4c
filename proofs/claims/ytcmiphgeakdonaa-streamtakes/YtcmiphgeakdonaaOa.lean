/- Rows and streams as arguments: how they are read. -/
import Derived.Test.YtcmiphgeakdonaaBa
import Derived.ProofKit
import Derived.OpenShut
import Derived.Lib.SmallJoins
import Derived.Deep.Slices
import Derived.SizedLaws
namespace Go.Proofs.Ytcmiphgeakdonaa
open Go.ChangeShapes Go.WideShapes Go.ChangeAt Go.RowKit Go.Joins Go.Deep
open Go.ChangeMaps (open_string shut_string)
set_option linter.unusedVariables false
set_option linter.unusedSimpArgs false
/-- How great a datum's parts are. -/
def Lim {H : Type} (t : TypeId) (d : DataW H) : Prop := ∀ n ∈ d.weights Try.prog t, n ≤ reachBytes
/-- The cells of a type are a part. -/
def ReadsAs {α : Type} (rel : Rel α) (t sz : Nat) : Prop := ∀ (H : Type) (enc : TypeId × Value → H) (W : World) (fuel : Nat) (cs : List Value) (x : DataW H × List MemPlace), DataW.trod enc Try.prog W 0 (fun _ => true) true fuel t cs = some x → Lim t x.1 → cs.length = sz → ∃ y, rel (fun b => b < W.heap.size) W cs y
theorem rb : reachBytes = 140737488351232 := rfl
theorem weights_all {H : Type} {P : Program} {e : TypeId} : ∀ {ds : List (DataW H)} {d : DataW H}, d ∈ ds → ∀ n ∈ d.weights P e, n ∈ DataW.weightsAll P e ds
  | d0 :: ds, d, hd, n, hn => by
    simp only [DataW.weightsAll, List.mem_append]
    rcases List.mem_cons.1 hd with rfl | hd
    · exact .inl hn
    · exact .inr (weights_all hd n hn)
theorem plain_addr {W : World} {a : Addr} {v : Value} (h : W.cell? (a.add 0) = some v) : a = ⟨a.block, a.off, none⟩ ∧ a.block < W.heap.size := by
  have hs := World.cell?_spot h
  obtain ⟨b, o, sp⟩ := a
  simp [Addr.add] at hs
  subst hs
  refine ⟨rfl, ?_⟩
  by_cases hb : b < W.heap.size
  · exact hb
  · have : W.heap[b]? = none := Array.getElem?_eq_none (by omega)
    simp [World.cell?, Addr.add, this] at h
set_option maxRecDepth 100000 in
/-- A list that is handed in. -/
theorem reads_list {α : Type} {rel : Rel α} {t e sz bts : Nat} (hu : Try.prog.underlying t = some (.slice e)) (hc : Try.prog.cellsOf e = sz) (hby : Try.prog.bytesOf e = bts) (hsz : 0 < sz) (hr : ReadsAs rel e sz)
    {H : Type} {enc : TypeId × Value → H} {W : World} {fuel : Nat} {v : Value} {x : DataW H × List MemPlace} (h : DataW.trod enc Try.prog W 0 (fun _ => true) true fuel t [v] = some x) (hl : Lim t x.1) : ∃ xs : List α, ListIs rel sz bts (fun b => b < W.heap.size) W v xs := by
  rcases open_slice hu h with ⟨hcs, hx⟩ | ⟨a, len, cap, m, n, D, Pl, hcs, hb, hle, hm, hmm, hx, hel⟩
  · simp only [List.cons.injEq, and_true] at hcs
    subst hcs
    exact ⟨[], none, 0, rfl, ⟨by simp, by simp⟩, fun h => by simp at h⟩
  · simp only [List.cons.injEq, and_true] at hcs
    subst hcs
    simp only [if_true] at hmm
    subst hmm
    rw [hc] at hel
    subst hx
    have hbytes : len * bts ≤ 140737488355328 := by
      have := hl ((((List.range len).map D).length + ((List.range (m - len)).map fun j => D (len + j)).length) * bts) (by simp [DataW.weights, hu, hby])
      simp only [List.length_map, List.length_range] at this
      have e1 : len * bts ≤ (len + (m - len)) * bts := Nat.mul_le_mul_right _ (by omega)
      have := rb
      omega
    have each : ∀ i, i < len → ∃ (q : List Value × α), q.1.length = sz ∧ (∀ j u, q.1[j]? = some u → W.cell? ((a.add (i * sz)).add j) = some u) ∧ rel (fun b => b < W.heap.size) W q.1 q.2 := by
      intro i hi
      obtain ⟨cs, g1, g2⟩ := hel i (by omega)
      obtain ⟨_, hlen, hcell⟩ := World.cells?_some g1
      obtain ⟨y, hy⟩ := hr H enc W n cs (D i, Pl i) g2 (fun k hk => hl k (by
        simp only [DataW.weights, hu, List.mem_cons, List.mem_append]
        exact .inr (.inl (weights_all (List.mem_map.2 ⟨i, by simpa using hi, rfl⟩) k hk)))) hlen
      refine ⟨(cs, y), hlen, fun j u hj => ?_, hy⟩
      have hjl : j < cs.length := (List.getElem?_eq_some_iff.1 hj).1
      rw [hcell j (by omega)]
      exact hj
    by_cases h0 : len = 0
    · subst h0
      exact ⟨[], some a, m, by simp, ⟨by simp, by simp⟩, fun h => by simp at h⟩
    · have each0 := each 0 (by omega)
      haveI : Inhabited (List Value × α) := ⟨each0.choose⟩
      obtain ⟨X, hX⟩ := choose_lt each
      obtain ⟨z1, z2, _⟩ := hX 0 (by omega)
      obtain ⟨u0, hu0⟩ : ∃ u, (X 0).1[0]? = some u := ⟨_, List.getElem?_eq_getElem (by omega)⟩
      have ha := z2 0 u0 hu0
      rw [Nat.zero_mul, add_add, Nat.add_zero] at ha
      obtain ⟨hp, hbl⟩ := plain_addr ha
      refine ⟨(List.range len).map fun i => (X i).2, some a, m, by simp, ⟨by simpa using hbytes, by simpa using hle⟩, fun _ => ⟨a.block, a.off, by rw [← hp], hbl, fun j hj => ?_⟩⟩
      simp at hj
      obtain ⟨k1, k2, k3⟩ := hX j hj
      refine ⟨(X j).1, k1, fun i u hi => ?_, by simpa using k3⟩
      have := k2 i u hi
      rw [add_add, hp, add_plain] at this
      rw [← Nat.add_assoc] at this
      exact this
/-- A field of a struct. -/
theorem fld_at {H : Type} {enc : TypeId × Value → H} {W : World} {fuel t : Nat} {cs : List Value} {x : DataW H × List MemPlace} {fs : Array Field} (ht : Try.prog.underlying t = some (.struct fs)) (h : DataW.trod enc Try.prog W 0 (fun _ => true) true fuel t cs = some x) (hl : Lim t x.1) (i : Nat) (f : Field) (hf : fs[i]? = some f) (e n : Nat) (he : f.type = e) (o : Nat) (ho : f.offset = o) (hn : Try.prog.cellsOf e = n) :
    ∃ m y, DataW.trod enc Try.prog W 0 (fun _ => true) true m e ((cs.drop o).take n) = some y ∧ Lim e y.1 := by
  obtain ⟨xs, m, _, rfl, _, hlen, hall⟩ := DataW.trod_struct ht h
  subst he ho hn
  have h1 := hall i f hf
  have hi : i < xs.length := by rw [hlen]; exact (Array.getElem?_eq_some_iff.1 hf).1
  rw [List.getElem?_eq_getElem hi] at h1
  refine ⟨m, xs[i], h1, fun k hk => hl k ?_⟩
  simp only [DataW.weights, ht]
  exact DataW.weights_mem_each (j := i) (by rw [List.getElem?_map, Array.getElem?_toList, hf]; rfl) (by rw [List.getElem?_map, List.getElem?_eq_getElem hi]; rfl) k hk
theorem int_at {H : Type} {enc : TypeId × Value → H} {W : World} {fuel t : Nat} {k : IntKind} {cs : List Value} {x : DataW H × List MemPlace} (hu : Try.prog.underlying t = some (.int k)) (h : DataW.trod enc Try.prog W 0 (fun _ => true) true fuel t cs = some x) : ∃ n, cs = [.int k n] ∧ (Lit.int k n).wf = true := by
  obtain ⟨n, e, _, w⟩ := DataW.trod_int hu h
  exact ⟨n, e, w⟩
theorem str_at {H : Type} {enc : TypeId × Value → H} {W : World} {fuel t : Nat} {cs : List Value} {x : DataW H × List MemPlace} (hu : Try.prog.underlying t = some .string) (h : DataW.trod enc Try.prog W 0 (fun _ => true) true fuel t cs = some x) (hl : Lim t x.1) : ∃ s, cs = [.string s] ∧ small s := by
  obtain ⟨s, e, hx, _⟩ := DataW.trod_string hu h
  refine ⟨s, e, ?_⟩
  have := hl s.data.toList.length (by rw [hx]; simp [DataW.weights])
  have h2 : s.data.toList.length = s.size := by simp
  have := rb
  show s.size ≤ _
  omega
theorem one_of {cs : List Value} {o n : Nat} {v : Value} (h : (cs.drop o).take n = [v]) : cs[o]? = some v := by
  have h0 : ((cs.drop o).take n)[0]? = some v := by rw [h]; rfl
  have hn : 0 < n := by
    cases n with
    | zero => simp at h
    | succ n => omega
  rw [List.getElem?_take_of_lt hn, List.getElem?_drop] at h0
  simpa using h0
theorem u8_of {n : Int} (h : (Lit.int .u8 n).wf = true) : ∃ k : Nat, n = (k : Int) ∧ k < 256 := by
  have := bounds_u8 h
  exact ⟨n.toNat, by omega, by omega⟩
theorem u64_of {n : Int} (h : (Lit.int .u64 n).wf = true) : ∃ k : Nat, n = (k : Int) ∧ k < 18446744073709551616 := by
  have := bounds_u64 h
  exact ⟨n.toNat, by omega, by omega⟩
theorem i64_of {n : Int} (h : (Lit.int .i64 n).wf = true) : I64 n := by
  have := bounds_i64 h
  exact ⟨by omega, by omega⟩
theorem in_of {cs : List Value} {o n j : Nat} {v : Value} (h : ((cs.drop o).take n)[j]? = some v) : cs[o + j]? = some v := by
  rw [List.getElem?_take] at h
  split at h
  · rwa [List.getElem?_drop] at h
  · cases h
theorem one_ex {cs : List Value} {o : Nat} (h : o < cs.length) : ∃ v, (cs.drop o).take 1 = [v] := by
  cases hd : cs.drop o with
  | nil => have := congrArg List.length hd; simp at this; omega
  | cons a l => exact ⟨a, by simp⟩
theorem len_in {cs : List Value} {o n : Nat} (h : o + n ≤ cs.length) : ((cs.drop o).take n).length = n := by
  rw [List.length_take, List.length_drop]; omega
theorem bool_at {H : Type} {enc : TypeId × Value → H} {W : World} {fuel t : Nat} {cs : List Value} {x : DataW H × List MemPlace} (hu : Try.prog.underlying t = some .bool) (h : DataW.trod enc Try.prog W 0 (fun _ => true) true fuel t cs = some x) : ∃ b, cs = [.bool b] := by
  obtain ⟨b, e, _⟩ := DataW.trod_bool hu h
  exact ⟨b, e⟩
theorem dt {cl : List Value} {a n b m : Nat} (h : b + m ≤ n) : (((cl.drop a).take n).drop b).take m = (cl.drop (a + b)).take m := by
  rw [List.drop_take, List.take_take, List.drop_drop, Nat.min_eq_left (by omega)]
theorem list_ext {l m : List Value} (hl : l.length = m.length) (h : ∀ (j : Nat) (v : Value), m[j]? = some v → l[j]? = some v) : l = m := by
  apply List.ext_getElem? 
  intro j
  by_cases hj : j < m.length
  · rw [List.getElem?_eq_getElem hj]; exact h j _ (List.getElem?_eq_getElem hj)
  · rw [List.getElem?_eq_none (by omega), List.getElem?_eq_none (by omega)]
theorem reads_slice {α : Type} {rel : Rel α} {t e sz bts : Nat} (hu : Try.prog.underlying t = some (.slice e)) (hc : Try.prog.cellsOf e = sz) (hby : Try.prog.bytesOf e = bts) (hsz : 0 < sz) (hr : ReadsAs rel e sz) : ReadsAs (fun K W cs (x : List α) => ∃ v, cs = [v] ∧ ListIs rel sz bts K W v x) t 1 := fun H enc W fuel cs x h hl hn => by
  match cs, hn with
  | [v], _ =>
    obtain ⟨xs, hx⟩ := reads_list hu hc hby hsz hr h hl
    exact ⟨xs, v, rfl, hx⟩

set_option maxRecDepth 100000 in
theorem reads_val : ReadsAs rVal 126 4 := fun H enc W fuel cs x h hl hn => by
  obtain ⟨m0, y0, g0, l0⟩ := fld_at Try.underlying126 h hl 0 _ rfl 101 1 rfl 0 rfl (by kernel_rfl)
  obtain ⟨n0, e0, w0⟩ := int_at Try.underlying101 g0
  obtain ⟨k0, rfl, q0⟩ := u8_of w0
  have c0 := (one_of e0)
  obtain ⟨m1, y1, g1, l1⟩ := fld_at Try.underlying126 h hl 1 _ rfl 4 1 rfl 1 rfl (by kernel_rfl)
  obtain ⟨b1, e1⟩ := bool_at Try.underlying4 g1
  have c1 := (one_of e1)
  obtain ⟨m2, y2, g2, l2⟩ := fld_at Try.underlying126 h hl 2 _ rfl 2 1 rfl 2 rfl (by kernel_rfl)
  obtain ⟨n2, e2, w2⟩ := int_at Try.underlying2 g2
  have c2 := (one_of e2)
  obtain ⟨m3, y3, g3, l3⟩ := fld_at Try.underlying126 h hl 3 _ rfl 9 1 rfl 3 rfl (by kernel_rfl)
  obtain ⟨s3, e3, w3⟩ := str_at Try.underlying9 g3 l3
  have c3 := (one_of e3)
  have hcs : cs = [.int .u8 (k0 : Int), .bool b1, .int .i64 (n2 : Int), .string s3] := list_ext (by rw [hn]; rfl) (fun j v hj => by
    have hjl : j < 4 := (List.getElem?_eq_some_iff.1 hj).1
    match j, hjl with
    | 0, _ => cases hj; exact c0
    | 1, _ => cases hj; exact c1
    | 2, _ => cases hj; exact c2
    | 3, _ => cases hj; exact c3
    )
  exact ⟨⟨(k0 : Int), b1, n2, s3⟩, hcs, ⟨by show (0 : Int) ≤ (k0 : Int); omega, by show (k0 : Int) < 256; omega⟩, (i64_of w2), w3⟩

theorem reads_row : ReadsAs rRow 96 1 := reads_slice Try.underlying96 (by kernel_rfl) (by kernel_rfl) (by omega) reads_val
theorem reads_bch : ReadsAs rBch 30 1 := reads_slice Try.underlying30 (by kernel_rfl) (by kernel_rfl) (by omega) reads_row
def rSt : Rel Strm := fun K W cs x => cs = [.int .u64 (x.qb : Int), .int .u64 (x.qn : Int), .int .i64 x.at_, .int .i64 x.fr, .int .i64 x.tq] ∧ okS x
set_option maxRecDepth 100000 in
theorem reads_st : ReadsAs rSt 26 5 := fun H enc W fuel cs x h hl hn => by
  obtain ⟨m0, y0, g0, l0⟩ := fld_at Try.underlying26 h hl 0 _ rfl 24 2 rfl 0 rfl (by kernel_rfl)
  obtain ⟨m5, y5, g5, l5⟩ := fld_at Try.underlying24 g0 l0 0 _ rfl 22 1 rfl 0 rfl (by kernel_rfl)
  rw [dt (by omega)] at g5
  obtain ⟨n0, e0, w0⟩ := int_at Try.underlying22 g5
  obtain ⟨m6, y6, g6, l6⟩ := fld_at Try.underlying24 g0 l0 1 _ rfl 22 1 rfl 1 rfl (by kernel_rfl)
  rw [dt (by omega)] at g6
  obtain ⟨n1, e1, w1⟩ := int_at Try.underlying22 g6
  obtain ⟨m1, y1, g1, l1⟩ := fld_at Try.underlying26 h hl 1 _ rfl 3 1 rfl 2 rfl (by kernel_rfl)
  obtain ⟨n2, e2, w2⟩ := int_at Try.underlying3 g1
  obtain ⟨m2, y2, g2, l2⟩ := fld_at Try.underlying26 h hl 2 _ rfl 3 1 rfl 3 rfl (by kernel_rfl)
  obtain ⟨n3, e3, w3⟩ := int_at Try.underlying3 g2
  obtain ⟨m3, y3, g3, l3⟩ := fld_at Try.underlying26 h hl 3 _ rfl 3 1 rfl 4 rfl (by kernel_rfl)
  obtain ⟨n4, e4, w4⟩ := int_at Try.underlying3 g3
  obtain ⟨k0, rfl, q0⟩ := u64_of w0
  obtain ⟨k1, rfl, q1⟩ := u64_of w1
  have c0 := one_of e0
  have c1 := one_of e1
  have c2 := one_of e2
  have c3 := one_of e3
  have c4 := one_of e4
  refine ⟨⟨k0, k1, n2, n3, n4⟩, list_ext (by rw [hn]; rfl) (fun j v hj => ?_), ⟨q0, q1⟩, i64_of w2, i64_of w3, i64_of w4⟩
  have hjl : j < 5 := (List.getElem?_eq_some_iff.1 hj).1
  match j, hjl with
  | 0, _ => cases hj; exact c0
  | 1, _ => cases hj; exact c1
  | 2, _ => cases hj; exact c2
  | 3, _ => cases hj; exact c3
  | 4, _ => cases hj; exact c4
set_option maxRecDepth 100000 in
theorem reads_out : ReadsAs rOut 29 7 := fun H enc W fuel cs x h hl hn => by
  obtain ⟨m0, y0, g0, l0⟩ := fld_at Try.underlying29 h hl 0 _ rfl 26 5 rfl 0 rfl (by kernel_rfl)
  obtain ⟨s, es, oks⟩ := reads_st H enc W m0 _ y0 g0 l0 (len_in (by omega))
  obtain ⟨m1, y1, g1, l1⟩ := fld_at Try.underlying29 h hl 1 _ rfl 27 1 rfl 5 rfl (by kernel_rfl)
  obtain ⟨v, ev⟩ := one_ex (cs := cs) (o := 5) (by omega)
  rw [ev] at g1
  obtain ⟨bs, hb⟩ := reads_list Try.underlying27 (by kernel_rfl) (by kernel_rfl) (by omega) reads_bch g1 l1
  obtain ⟨m2, y2, g2, l2⟩ := fld_at Try.underlying29 h hl 2 _ rfl 22 1 rfl 6 rfl (by kernel_rfl)
  obtain ⟨n2, e2, w2⟩ := int_at Try.underlying22 g2
  obtain ⟨k2, rfl, q2⟩ := u64_of w2
  have c5 := one_of ev
  have c6 := one_of e2
  have cS : ∀ j u, ([.int .u64 (s.qb : Int), .int .u64 (s.qn : Int), .int .i64 s.at_, .int .i64 s.fr, .int .i64 s.tq] : List Value)[j]? = some u → cs[0 + j]? = some u := fun j u hu => in_of (by rw [es]; exact hu)
  refine ⟨⟨s, bs, k2⟩, v, list_ext (by rw [hn]; rfl) (fun j u hj => ?_), ⟨oks, q2⟩, hb⟩
  have hjl : j < 7 := (List.getElem?_eq_some_iff.1 hj).1
  match j, hjl with
  | 0, _ => cases hj; exact cS 0 _ rfl
  | 1, _ => cases hj; exact cS 1 _ rfl
  | 2, _ => cases hj; exact cS 2 _ rfl
  | 3, _ => cases hj; exact cS 3 _ rfl
  | 4, _ => cases hj; exact cS 4 _ rfl
  | 5, _ => cases hj; exact c5
  | 6, _ => cases hj; exact c6
theorem weights_of {H : Type} {ts : List TypeId} {ds : List (DataW H)} (h : (DataW.weightsEach Try.prog ts ds).all (· ≤ reachBytes) = true) {j : Nat} {t : TypeId} {d : DataW H} (ht : ts[j]? = some t) (hd : ds[j]? = some d) : ∀ n ∈ d.weights Try.prog t, n ≤ reachBytes := fun n hn => by
  have h3 : n ∈ DataW.weightsEach Try.prog ts ds := DataW.weights_mem_each (P := Try.prog) (j := j) ht hd n hn
  have := List.all_eq_true.1 h n h3
  simpa using this
theorem lim_of {H : Type} {ts : List TypeId} {ds : List (DataW H)} (h : (DataW.weightsEach Try.prog ts ds).all (· ≤ reachBytes) = true) {j : Nat} {t : TypeId} {d : DataW H} (ht : ts[j]? = some t) (hd : ds[j]? = some d) : Lim t d := weights_of h ht hd
set_option maxRecDepth 100000 in
theorem open_st {H : Type} {enc : TypeId × Value → H} {W : World} {base : Nat} {v : Value} {d : DataW H} {ps : List MemPlace} (hv : Value.okWide Try.prog W .any base 26 v) (h : DataW.Trod enc Try.prog W 0 (fun _ => true) true 26 v d ps) (hl : Lim 26 d) : ∃ s : Strm, v = .agg #[.int .u64 (s.qb : Int), .int .u64 (s.qn : Int), .int .i64 s.at_, .int .i64 s.fr, .int .i64 s.tq] ∧ okS s := by
  obtain ⟨cs, rfl, hsz⟩ := okWide_struct Try.underlying26 hv
  rw [show Try.prog.cellsOf 26 = 5 by kernel_rfl] at hsz
  obtain ⟨fu, hfu⟩ := h
  obtain ⟨s, hy, hok⟩ := reads_st H enc W fu cs.toList (d, ps) hfu hl (by simpa using hsz)
  exact ⟨s, by rw [show cs = #[.int .u64 (s.qb : Int), .int .u64 (s.qn : Int), .int .i64 s.at_, .int .i64 s.fr, .int .i64 s.tq] from Array.ext' hy], hok⟩
set_option maxRecDepth 100000 in
theorem open_out {H : Type} {enc : TypeId × Value → H} {W : World} {base : Nat} {v : Value} {d : DataW H} {ps : List MemPlace} (hv : Value.okWide Try.prog W .any base 29 v) (h : DataW.Trod enc Try.prog W 0 (fun _ => true) true 29 v d ps) (hl : Lim 29 d) : ∃ (cs : List Value) (x : Ot), v = .agg cs.toArray ∧ rOut (fun b => b < W.heap.size) W cs x := by
  obtain ⟨cs, rfl, hsz⟩ := okWide_struct Try.underlying29 hv
  rw [show Try.prog.cellsOf 29 = 7 by kernel_rfl] at hsz
  obtain ⟨fu, hfu⟩ := h
  obtain ⟨x, hx⟩ := reads_out H enc W fu cs.toList (d, ps) hfu hl (by simpa using hsz)
  exact ⟨cs.toList, x, by simp, hx⟩
set_option maxRecDepth 100000 in
theorem open_rows {H : Type} {enc : TypeId × Value → H} {W : World} {base : Nat} {v : Value} {d : DataW H} {ps : List MemPlace} (hv : Value.okWide Try.prog W .any base 30 v) (h : DataW.Trod enc Try.prog W 0 (fun _ => true) true 30 v d ps) (hl : Lim 30 d) : ∃ rows : List (List Val), ListIs rRow 1 24 (fun b => b < W.heap.size) W v rows := by
  obtain ⟨a, len, cap, rfl⟩ := okWide_slice Try.underlying30 hv
  obtain ⟨fu, hfu⟩ := h
  exact reads_list (x := (d, ps)) Try.underlying30 (by kernel_rfl) (by kernel_rfl) (by omega) reads_row hfu hl
end Go.Proofs.Ytcmiphgeakdonaa
