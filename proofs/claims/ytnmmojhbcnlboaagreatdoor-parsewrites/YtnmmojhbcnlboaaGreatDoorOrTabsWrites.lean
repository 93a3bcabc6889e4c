/- A query as an argument: how it is read. -/
import Derived.Test.YtnmmojhbcnlboaaGreatDoorQy
import Derived.ProofKit
import Derived.OpenShut
import Derived.Lib.SmallJoins
import Derived.Deep.Slices
import Derived.SizedLaws
import Derived.Test.YtnmmojhbcnlboaaGreatDoorRgRh
import Derived.Test.YtnmmojhbcnlboaaGreatDoorTie
import Derived.Lib.LaidU8T
import Derived.Lib.LaidTab
import Derived.Shelf.Vars
import Derived.PinnedBridge
import Derived.LaidMore
import Derived.MakeChecks
import Derived.Lay
import Derived.Test.YtnmmojhbcnlboaaGreatDoorVjVkVlVm
import Derived.Test.YtnmmojhbcnlboaaGreatDoorCards
import Derived.SevenTiedAt
import Derived.Stop.Joined
import Derived.Carry
import Derived.Deep.DeepHandedRow
namespace Go.Proofs.YtnmmojhbcnlboaaGreatDoor.Ag
open Go.ChangeShapes Go.WideShapes Go.ChangeAt Go.RowKit Go.Joins Go.Deep
open Go.ChangeMaps (open_string shut_string)
set_option linter.unusedVariables false
set_option linter.unusedSimpArgs false
/-- How great a datum's parts are. -/
def Lim {H : Type} (t : TypeId) (d : DataW H) : Prop := ∀ n ∈ d.weights Tryz.prog t, n ≤ reachBytes
/-- The cells of a type are a part. -/
def ReadsAs {α : Type} (rel : Rel α) (t sz : Nat) : Prop := ∀ (H : Type) (enc : TypeId × Value → H) (W : World) (fuel : Nat) (cs : List Value) (x : DataW H × List MemPlace), DataW.trod enc Tryz.prog W 0 (fun _ => true) true fuel t cs = some x → Lim t x.1 → cs.length = sz → ∃ y, rel (fun b => b < W.heap.size) W cs y
theorem rb : reachBytes = 140737488351232 := rfl
theorem weights_all {H : Type} {P : Program} {e : TypeId} : ∀ {ds : List (DataW H)} {d : DataW H}, d ∈ ds → ∀ n ∈ d.weights P e, n ∈ DataW.weightsAll P e ds
  | d0 :: ds, d, hd, n, hn => by
    simp only [DataW.weightsAll, List.mem_append]
    rcases List.mem_cons.1 hd with rfl | hd
    · exact .inl hn
    · exact .inr (weights_all hd n hn)
theorem plain_addr {W : World} {a : Addr} {v : Value} (h : W.cell? (a.add 0) = some v) : a = ⟨a.block, a.off, none⟩ ∧ a.block < W.heap.size := by
  have hs := World.cell?_spot h
  obtain ⟨b, o, sp⟩ := a
  simp [Addr.add] at hs
  subst hs
  refine ⟨rfl, ?_⟩
  by_cases hb : b < W.heap.size
  · exact hb
  · have : W.heap[b]? = none := Array.getElem?_eq_none (by omega)
    simp [World.cell?, Addr.add, this] at h
set_option maxRecDepth 100000 in
/-- A list that is handed in. -/
theorem reads_list {α : Type} {rel : Rel α} {t e sz bts : Nat} (hu : Tryz.prog.underlying t = some (.slice e)) (hc : Tryz.prog.cellsOf e = sz) (hby : Tryz.prog.bytesOf e = bts) (hsz : 0 < sz) (hr : ReadsAs rel e sz)
    {H : Type} {enc : TypeId × Value → H} {W : World} {fuel : Nat} {v : Value} {x : DataW H × List MemPlace} (h : DataW.trod enc Tryz.prog W 0 (fun _ => true) true fuel t [v] = some x) (hl : Lim t x.1) : ∃ xs : List α, ListIs rel sz bts (fun b => b < W.heap.size) W v xs := by
  rcases open_slice hu h with ⟨hcs, hx⟩ | ⟨a, len, cap, m, n, D, Pl, hcs, hb, hle, hm, hmm, hx, hel⟩
  · simp only [List.cons.injEq, and_true] at hcs
    subst hcs
    exact ⟨[], none, 0, rfl, by simp, fun h => absurd h (by simp)⟩
  · simp only [List.cons.injEq, and_true] at hcs
    subst hcs
    simp only [if_true] at hmm
    subst hmm
    rw [hc] at hel
    subst hx
    have hbytes : len * bts ≤ 140737488355328 := by
      have := hl ((((List.range len).map D).length + ((List.range (m - len)).map fun j => D (len + j)).length) * bts) (by simp [DataW.weights, hu, hby])
      simp only [List.length_map, List.length_range] at this
      have e1 : len * bts ≤ (len + (m - len)) * bts := Nat.mul_le_mul_right _ (by omega)
      have := rb
      omega
    have each : ∀ i, i < len → ∃ (q : List Value × α), q.1.length = sz ∧ (∀ j u, q.1[j]? = some u → W.cell? ((a.add (i * sz)).add j) = some u) ∧ rel (fun b => b < W.heap.size) W q.1 q.2 := by
      intro i hi
      obtain ⟨cs, g1, g2⟩ := hel i (by omega)
      obtain ⟨_, hlen, hcell⟩ := World.cells?_some g1
      obtain ⟨y, hy⟩ := hr H enc W n cs (D i, Pl i) g2 (fun k hk => hl k (by
        simp only [DataW.weights, hu, List.mem_cons, List.mem_append]
        exact .inr (.inl (weights_all (List.mem_map.2 ⟨i, by simpa using hi, rfl⟩) k hk)))) hlen
      refine ⟨(cs, y), hlen, fun j u hj => ?_, hy⟩
      have hjl : j < cs.length := (List.getElem?_eq_some_iff.1 hj).1
      rw [hcell j (by omega)]
      exact hj
    by_cases h0 : len = 0
    · subst h0
      exact ⟨[], some a, m, by simp, by simp, fun h => by simp at h⟩
    · have each0 := each 0 (by omega)
      haveI : Inhabited (List Value × α) := ⟨each0.choose⟩
      obtain ⟨X, hX⟩ := choose_lt each
      obtain ⟨z1, z2, _⟩ := hX 0 (by omega)
      obtain ⟨u0, hu0⟩ : ∃ u, (X 0).1[0]? = some u := ⟨_, List.getElem?_eq_getElem (by omega)⟩
      have ha := z2 0 u0 hu0
      rw [Nat.zero_mul, add_add, Nat.add_zero] at ha
      obtain ⟨hp, hbl⟩ := plain_addr ha
      refine ⟨(List.range len).map fun i => (X i).2, some a, m, by simp, ⟨by simpa using hbytes, by simp; omega⟩, fun _ => ⟨a.block, a.off, by rw [← hp], hbl, fun j hj => ?_⟩⟩
      simp at hj
      obtain ⟨k1, k2, k3⟩ := hX j hj
      refine ⟨(X j).1, k1, fun i u hi => ?_, by simpa using k3⟩
      have := k2 i u hi
      rw [add_add, hp, add_plain] at this
      rw [← Nat.add_assoc] at this
      exact this
/-- A field of a struct. -/
theorem fld_at {H : Type} {enc : TypeId × Value → H} {W : World} {fuel t : Nat} {cs : List Value} {x : DataW H × List MemPlace} {fs : Array Field} (ht : Tryz.prog.underlying t = some (.struct fs)) (h : DataW.trod enc Tryz.prog W 0 (fun _ => true) true fuel t cs = some x) (hl : Lim t x.1) (i : Nat) (f : Field) (hf : fs[i]? = some f) (e n : Nat) (he : f.type = e) (o : Nat) (ho : f.offset = o) (hn : Tryz.prog.cellsOf e = n) :
    ∃ m y, DataW.trod enc Tryz.prog W 0 (fun _ => true) true m e ((cs.drop o).take n) = some y ∧ Lim e y.1 := by
  obtain ⟨xs, m, _, rfl, _, hlen, hall⟩ := DataW.trod_struct ht h
  subst he ho hn
  have h1 := hall i f hf
  have hi : i < xs.length := by rw [hlen]; exact (Array.getElem?_eq_some_iff.1 hf).1
  rw [List.getElem?_eq_getElem hi] at h1
  refine ⟨m, xs[i], h1, fun k hk => hl k ?_⟩
  simp only [DataW.weights, ht]
  exact DataW.weights_mem_each (j := i) (by rw [List.getElem?_map, Array.getElem?_toList, hf]; rfl) (by rw [List.getElem?_map, List.getElem?_eq_getElem hi]; rfl) k hk
theorem int_at {H : Type} {enc : TypeId × Value → H} {W : World} {fuel t : Nat} {k : IntKind} {cs : List Value} {x : DataW H × List MemPlace} (hu : Tryz.prog.underlying t = some (.int k)) (h : DataW.trod enc Tryz.prog W 0 (fun _ => true) true fuel t cs = some x) : ∃ n, cs = [.int k n] ∧ (Lit.int k n).wf = true := by
  obtain ⟨n, e, _, w⟩ := DataW.trod_int hu h
  exact ⟨n, e, w⟩
theorem text_at {H : Type} {enc : TypeId × Value → H} {W : World} {fuel t : Nat} {cs : List Value} {x : DataW H × List MemPlace} (hu : Tryz.prog.underlying t = some .string) (h : DataW.trod enc Tryz.prog W 0 (fun _ => true) true fuel t cs = some x) (hl : Lim t x.1) : ∃ s : ByteArray, cs = [.string s] ∧ s.size ≤ 140737488351232 := by
  obtain ⟨s, e, hx, _⟩ := DataW.trod_string hu h
  refine ⟨s, e, ?_⟩
  have := hl s.data.toList.length (by rw [hx]; simp [DataW.weights])
  have h2 : s.data.toList.length = s.size := by simp
  have := rb
  omega
theorem one_of {cs : List Value} {o n : Nat} {v : Value} (h : (cs.drop o).take n = [v]) : cs[o]? = some v := by
  have h0 : ((cs.drop o).take n)[0]? = some v := by rw [h]; rfl
  have hn : 0 < n := by
    cases n with
    | zero => simp at h
    | succ n => omega
  rw [List.getElem?_take_of_lt hn, List.getElem?_drop] at h0
  simpa using h0
theorem u8_of {n : Int} (h : (Lit.int .u8 n).wf = true) : ∃ k : Nat, n = (k : Int) ∧ k < 256 := by
  have := bounds_u8 h
  exact ⟨n.toNat, by omega, by omega⟩
theorem u64_of {n : Int} (h : (Lit.int .u64 n).wf = true) : ∃ k : Nat, n = (k : Int) ∧ k < 18446744073709551616 := by
  have := bounds_u64 h
  exact ⟨n.toNat, by omega, by omega⟩
theorem i64_of {n : Int} (h : (Lit.int .i64 n).wf = true) : I64 n := by
  have := bounds_i64 h
  exact ⟨by omega, by omega⟩
theorem in_of {cs : List Value} {o n j : Nat} {v : Value} (h : ((cs.drop o).take n)[j]? = some v) : cs[o + j]? = some v := by
  rw [List.getElem?_take] at h
  split at h
  · rwa [List.getElem?_drop] at h
  · cases h
theorem one_ex {cs : List Value} {o : Nat} (h : o < cs.length) : ∃ v, (cs.drop o).take 1 = [v] := by
  cases hd : cs.drop o with
  | nil => have := congrArg List.length hd; simp at this; omega
  | cons a l => exact ⟨a, by simp⟩
theorem len_in {cs : List Value} {o n : Nat} (h : o + n ≤ cs.length) : ((cs.drop o).take n).length = n := by
  rw [List.length_take, List.length_drop]; omega
theorem dt {cl : List Value} {a n b m : Nat} (h : b + m ≤ n) : (((cl.drop a).take n).drop b).take m = (cl.drop (a + b)).take m := by
  rw [List.drop_take, List.take_take, List.drop_drop, Nat.min_eq_left (by omega)]
theorem list_ext {l m : List Value} (hl : l.length = m.length) (h : ∀ (j : Nat) (v : Value), m[j]? = some v → l[j]? = some v) : l = m := by
  apply List.ext_getElem? 
  intro j
  by_cases hj : j < m.length
  · rw [List.getElem?_eq_getElem hj]; exact h j _ (List.getElem?_eq_getElem hj)
  · rw [List.getElem?_eq_none (by omega), List.getElem?_eq_none (by omega)]
theorem reads_slice {α : Type} {rel : Rel α} {t e sz bts : Nat} (hu : Tryz.prog.underlying t = some (.slice e)) (hc : Tryz.prog.cellsOf e = sz) (hby : Tryz.prog.bytesOf e = bts) (hsz : 0 < sz) (hr : ReadsAs rel e sz) : ReadsAs (fun K W cs (x : List α) => ∃ v, cs = [v] ∧ ListIs rel sz bts K W v x) t 1 := fun H enc W fuel cs x h hl hn => by
  match cs, hn with
  | [v], _ =>
    obtain ⟨xs, hx⟩ := reads_list hu hc hby hsz hr h hl
    exact ⟨xs, v, rfl, hx⟩
theorem str_eq (s : ByteArray) : (⟨s.data.toList.toArray⟩ : ByteArray) = s := rfl
theorem size_of (s : ByteArray) : s.data.toList.length = s.size := by simp
theorem reads_stp : ReadsAs rStpW 29 3 := fun H enc W fuel cs x h hl hn => by
  obtain ⟨m0, y0, g0, l0⟩ := fld_at Tryz.underlying29 h hl 0 _ rfl 27 1 rfl 0 rfl (by kernel_rfl)
  obtain ⟨n0, e0, w0⟩ := int_at Tryz.underlying27 g0
  obtain ⟨k0, rfl, q0⟩ := u8_of w0
  have c0 := (one_of e0)
  obtain ⟨m1, y1, g1, l1⟩ := fld_at Tryz.underlying29 h hl 1 _ rfl 9 1 rfl 1 rfl (by kernel_rfl)
  obtain ⟨s1, e1, w1⟩ := text_at Tryz.underlying9 g1 l1
  have c1 := (one_of e1)
  obtain ⟨m2, y2, g2, l2⟩ := fld_at Tryz.underlying29 h hl 2 _ rfl 2 1 rfl 2 rfl (by kernel_rfl)
  obtain ⟨n2, e2, w2⟩ := int_at Tryz.underlying2 g2
  have c2 := (one_of e2)
  have hcs : cs = [.int .u8 (k0 : Int), .string s1, .int .i64 (n2 : Int)] := list_ext (by rw [hn]; rfl) (fun j v hj => by
    have hjl : j < 3 := (List.getElem?_eq_some_iff.1 hj).1
    match j, hjl with
    | 0, _ => cases hj; exact c0
    | 1, _ => cases hj; exact c1
    | 2, _ => cases hj; exact c2
    )
  exact ⟨⟨k0, s1.data.toList, n2⟩, hcs, q0, i64_of w2, by show s1.data.toList.length ≤ _; rw [size_of]; omega⟩
theorem sl24 : ReadsAs (fun K W cs x => ∃ v, cs = [v] ∧ ListIs rStpW 3 32 K W v x) 23 1 := reads_slice Tryz.underlying23 (by kernel_rfl) (by kernel_rfl) (by omega) reads_stp
theorem reads_itm : ReadsAs rItmW 45 2 := fun H enc W fuel cs x h hl hn => by
  obtain ⟨m0, y0, g0, l0⟩ := fld_at Tryz.underlying45 h hl 0 _ rfl 43 1 rfl 0 rfl (by kernel_rfl)
  obtain ⟨n0, e0, w0⟩ := int_at Tryz.underlying43 g0
  obtain ⟨k0, rfl, q0⟩ := u8_of w0
  have c0 := (one_of e0)
  obtain ⟨m1, y1, g1, l1⟩ := fld_at Tryz.underlying45 h hl 1 _ rfl 23 1 rfl 1 rfl (by kernel_rfl)
  obtain ⟨z1, v1, e1, w1⟩ := sl24 _ _ _ _ _ _ g1 l1 (len_in (by omega))
  have c1 := (one_of e1)
  have hcs : cs = [.int .u8 (k0 : Int), v1] := list_ext (by rw [hn]; rfl) (fun j v hj => by
    have hjl : j < 2 := (List.getElem?_eq_some_iff.1 hj).1
    match j, hjl with
    | 0, _ => cases hj; exact c0
    | 1, _ => cases hj; exact c1
    )
  exact ⟨⟨k0, z1⟩, v1, hcs, w1, q0⟩
theorem sl23 : ReadsAs (fun K W cs x => ∃ v, cs = [v] ∧ ListIs rItmW 2 32 K W v x) 22 1 := reads_slice Tryz.underlying22 (by kernel_rfl) (by kernel_rfl) (by omega) reads_itm
theorem reads_str : ReadsAs rStrW 9 1 := fun H enc W fuel cs x h hl hn => by
  obtain ⟨s, e, w⟩ := text_at Tryz.underlying9 h hl
  exact ⟨s.data.toList, e, by show s.data.toList.length ≤ _; rw [size_of]; omega⟩
theorem sl25 : ReadsAs (fun K W cs x => ∃ v, cs = [v] ∧ ListIs rStrW 1 16 K W v x) 24 1 := reads_slice Tryz.underlying24 (by kernel_rfl) (by kernel_rfl) (by omega) reads_str
/-- A query, of any size. -/
theorem reads_qry {H : Type} {enc : TypeId × Value → H} {W : World} {fuel : Nat} {cs : List Value} {x : DataW H × List MemPlace} (h : DataW.trod enc Tryz.prog W 0 (fun _ => true) true fuel 26 cs = some x) (hl : Lim 26 x.1) (hn : cs.length = 7) : ∃ (q : Qry) (pi pw pg : Option Addr) (ci cw cg : Nat), cs = (q.cl (.slice pi q.i.length ci) (.slice pw q.w.length cw) (.slice pg q.g.length cg)).toList ∧ QLsW (fun b => b < W.heap.size) W pi pw pg ci cw cg q := by
  obtain ⟨m0, y0, g0, l0⟩ := fld_at Tryz.underlying26 h hl 0 _ rfl 22 1 rfl 0 rfl (by kernel_rfl)
  obtain ⟨z0, v0, e0, w0⟩ := sl23 _ _ _ _ _ _ g0 l0 (len_in (by omega))
  obtain ⟨m1, y1, g1, l1⟩ := fld_at Tryz.underlying26 h hl 1 _ rfl 9 1 rfl 1 rfl (by kernel_rfl)
  obtain ⟨s1, e1, w1⟩ := text_at Tryz.underlying9 g1 l1
  obtain ⟨m2, y2, g2, l2⟩ := fld_at Tryz.underlying26 h hl 2 _ rfl 9 1 rfl 2 rfl (by kernel_rfl)
  obtain ⟨s2, e2, w2⟩ := text_at Tryz.underlying9 g2 l2
  obtain ⟨m3, y3, g3, l3⟩ := fld_at Tryz.underlying26 h hl 3 _ rfl 9 1 rfl 3 rfl (by kernel_rfl)
  obtain ⟨s3, e3, w3⟩ := text_at Tryz.underlying9 g3 l3
  obtain ⟨m4, y4, g4, l4⟩ := fld_at Tryz.underlying26 h hl 4 _ rfl 9 1 rfl 4 rfl (by kernel_rfl)
  obtain ⟨s4, e4, w4⟩ := text_at Tryz.underlying9 g4 l4
  obtain ⟨m5, y5, g5, l5⟩ := fld_at Tryz.underlying26 h hl 5 _ rfl 23 1 rfl 5 rfl (by kernel_rfl)
  obtain ⟨z5, v5, e5, w5⟩ := sl24 _ _ _ _ _ _ g5 l5 (len_in (by omega))
  obtain ⟨m6, y6, g6, l6⟩ := fld_at Tryz.underlying26 h hl 6 _ rfl 24 1 rfl 6 rfl (by kernel_rfl)
  obtain ⟨z6, v6, e6, w6⟩ := sl25 _ _ _ _ _ _ g6 l6 (len_in (by omega))
  obtain ⟨pi, ci, rfl, i1, i2⟩ := w0
  obtain ⟨pw, cw, rfl, j1, j2⟩ := w5
  obtain ⟨pg, cg, rfl, k1, k2⟩ := w6
  have c0 := one_of e0
  have c1 := one_of e1
  have c2 := one_of e2
  have c3 := one_of e3
  have c4 := one_of e4
  have c5 := one_of e5
  have c6 := one_of e6
  refine ⟨⟨z0, s1.data.toList, s2.data.toList, s3.data.toList, s4.data.toList, z5, z6⟩, pi, pw, pg, ci, cw, cg, ?_, ⟨⟨_, _, rfl, i1, i2⟩, ⟨_, _, rfl, j1, j2⟩, ⟨_, _, rfl, k1, k2⟩, ?_, ?_, ?_, ?_⟩⟩
  · refine list_ext (by rw [hn]; rfl) (fun j v hj => ?_)
    have hjl : j < 7 := (List.getElem?_eq_some_iff.1 hj).1
    match j, hjl with
    | 0, _ => cases hj; exact c0
    | 1, _ => cases hj; exact c1
    | 2, _ => cases hj; exact c2
    | 3, _ => cases hj; exact c3
    | 4, _ => cases hj; exact c4
    | 5, _ => cases hj; exact c5
    | 6, _ => cases hj; exact c6
  · show s1.data.toList.length ≤ _; rw [size_of]; omega
  · show s2.data.toList.length ≤ _; rw [size_of]; omega
  · show s3.data.toList.length ≤ _; rw [size_of]; omega
  · show s4.data.toList.length ≤ _; rw [size_of]; omega
end Go.Proofs.YtnmmojhbcnlboaaGreatDoor.Ag
/- What the listed variables give the walks. -/
namespace Go.Proofs.YtnmmojhbcnlboaaGreatDoor
open Go.RowKit Go.Lib
theorem own : ownKnob Tryz.prog.godebug = none := by kernel_rfl
def bruTab : List Int := [0, 1, 56, 2, 57, 49, 28, 3, 61, 58, 42, 50, 38, 29, 17, 4, 62, 47, 59, 36, 45, 43, 51, 22, 53, 39, 33, 30, 24, 18, 12, 5, 63, 55, 48, 27, 60, 41, 37, 16, 46, 35, 44, 21, 52, 32, 23, 11, 54, 26, 40, 15, 34, 20, 31, 10, 25, 14, 19, 9, 13, 8, 7, 6]
theorem bru_eq : (Rows.laid_math_bits_deBruijn64tab : DataW Unit) = Lib.tabData .u8 bruTab := by kernel_rfl
theorem pow_eq : (Rows.laid_internal_strconv_uint64pow10 : DataW Unit) = Lib.tabData .u64 Lib.pow10Tab := by kernel_rfl
theorem accept_eq : (Rows.laid_unicode_utf8_acceptRanges : DataW Unit) = Lib.acceptData := by kernel_rfl
/-- A table of pairs of a text and a number, as a row lists it. -/
def pairData (l : List (List UInt8 × Nat)) : DataW Unit := .agg (l.map fun x => .agg [.lit (.string x.1), .lit (.int .u8 (x.2 : Int))])
theorem words_eq : (Rows.laid_potsherd_parse_words : DataW Unit) = pairData wordsP := by kernel_rfl
theorem aggs_eq : (Rows.laid_potsherd_parse_aggregates : DataW Unit) = pairData aggsP := by kernel_rfl
theorem flat_pair {α : Type} (a b : α → Value) : ∀ (l : List α) (i : Nat), (l.flatMap fun x => [a x, b x])[2 * i]? = l[i]?.map a ∧ (l.flatMap fun x => [a x, b x])[2 * i + 1]? = l[i]?.map b
  | [], i => by simp
  | x :: l, 0 => by simp
  | x :: l, i + 1 => by
    have := flat_pair a b l i
    simpa [List.flatMap_cons, Nat.mul_add] using this
/-- Such a table, cell for cell. -/
theorem pairs_reads {W : World} {name : String} {l : List (List UInt8 × Nat)} {g : Nat} {t e : TypeId} {n : Nat} {fs : Array Field} {f0 f1 : Field} (hl : l.length = n)
    (hg : Tryz.prog.globalNamed name = some g) (hty : (Tryz.prog.globals[g]?).map (·.type) = some t) (ht : Tryz.prog.underlying t = some (.array n e)) (he : Tryz.prog.underlying e = some (.struct fs)) (hce : Tryz.prog.cellsOf e = 2)
    (h0 : fs[0]? = some f0) (h1 : fs[1]? = some f1) (u0 : Tryz.prog.underlying f0.type = some .string) (u1 : Tryz.prog.underlying f1.type = some (.int .u8)) (o0 : f0.offset = 0) (o1 : f1.offset = 1) (c0 : Tryz.prog.cellsOf f0.type = 1) (c1 : Tryz.prog.cellsOf f1.type = 1)
    (h : VarReads Tryz.prog W name (pairData l)) : W.rangeAt g 0 (l.flatMap fun x => [.string ⟨x.1.toArray⟩, .int .u8 (x.2 : Int)]) := by
  obtain ⟨g', t', cs, fuel, p, hg', ht', hvar, hd⟩ := h
  obtain rfl := Option.some.inj (hg.symm.trans hg')
  obtain rfl := Option.some.inj (hty.symm.trans ht')
  have hc := World.var?_cell hg hvar
  have key : ∀ (i : Nat) (x : List UInt8 × Nat), l[i]? = some x → cs[2 * i]? = some (.string ⟨x.1.toArray⟩) ∧ cs[2 * i + 1]? = some (.int .u8 (x.2 : Int)) := by
    intro i x hx
    have hi : i < n := by rw [← hl]; exact (List.getElem?_eq_some_iff.1 hx).1
    obtain ⟨fuel', d, q, hdd, hf⟩ := array_elem ht hd i hi
    rw [List.getElem?_map, hx] at hdd
    obtain rfl := Option.some.inj hdd
    rw [hce] at hf
    obtain ⟨xs, m, -, hxx, -, -, hall⟩ := DataW.trod_struct he hf
    have hxs : xs.map (·.1) = [.lit (.string x.1), .lit (.int .u8 (x.2 : Int))] := by
      have := congrArg Prod.fst hxx
      simpa using this.symm
    match xs, hxs with
    | [y0, y1], hxs =>
      simp only [List.map_cons, List.map_nil, List.cons.injEq, and_true] at hxs
      have a0 : _ = some y0 := hall 0 f0 h0
      have a1 : _ = some y1 := hall 1 f1 h1
      rw [o0, c0] at a0
      rw [o1, c1] at a1
      obtain ⟨s, hs, e0, -⟩ := DataW.trod_string u0 a0
      obtain ⟨k, hk, e1, -⟩ := DataW.trod_int u1 a1
      rw [e0, e1] at hxs
      simp only [DataW.lit.injEq, Lit.string.injEq, Lit.int.injEq, true_and] at hxs
      have b0 := congrArg (·[0]?) hs
      have b1 := congrArg (·[0]?) hk
      have es : (⟨x.1.toArray⟩ : ByteArray) = s := by rw [← hxs.1]
      refine ⟨?_, ?_⟩
      · rw [es]; simpa [List.getElem?_take, List.getElem?_drop, Nat.mul_comm] using b0
      · rw [← hxs.2]; simpa [List.getElem?_take, List.getElem?_drop, Nat.mul_comm] using b1
    | [], hxs => simp at hxs
    | [_], hxs => simp at hxs
    | _ :: _ :: _ :: _, hxs => simp at hxs
  intro j u hu
  show W.cell? ⟨g, 0 + j, none⟩ = some u
  rw [Nat.zero_add, hc j]
  have hf := flat_pair (fun x : List UInt8 × Nat => Value.string ⟨x.1.toArray⟩) (fun x => Value.int .u8 (x.2 : Int)) l (j / 2)
  rcases Nat.mod_two_eq_zero_or_one j with hj | hj
  · have ej : 2 * (j / 2) = j := by omega
    rw [ej, hu] at hf
    obtain ⟨x, hx, rfl⟩ := Option.map_eq_some_iff.1 hf.1.symm
    have := (key _ x hx).1
    rwa [ej] at this
  · have ej : 2 * (j / 2) + 1 = j := by omega
    rw [ej, hu] at hf
    obtain ⟨x, hx, rfl⟩ := Option.map_eq_some_iff.1 hf.2.symm
    have := (key _ x hx).2
    rwa [ej] at this
theorem tab_reads {W : World} {name : String} {k : IntKind} {zs : List Int} {g : Nat} {t e : TypeId} {n : Nat}
    (hg : Tryz.prog.globalNamed name = some g) (hty : (Tryz.prog.globals[g]?).map (·.type) = some t) (ht : Tryz.prog.underlying t = some (.array n e)) (he : Tryz.prog.underlying e = some (.int k)) (hce : Tryz.prog.cellsOf e = 1) (hct : Tryz.prog.cellsOf t = n)
    (h : VarReads Tryz.prog W name (tabData k zs)) : TabIs Tryz.prog W name k zs := by
  obtain ⟨g', t', cs, fuel, p, hg', ht', hvar, hd⟩ := h
  obtain rfl := Option.some.inj (hg.symm.trans hg')
  obtain rfl := Option.some.inj (hty.symm.trans ht')
  unfold TabIs
  rw [hvar, ← cells_of_tab ht he hce hct hd]
theorem iface_reads {W : World} {name nm : String} {d : DataW Unit} {g : Nat} (hg : Tryz.prog.globalNamed name = some g) (hty : (Tryz.prog.globals[g]?).map (·.type) = some 60)
    (h : VarReads Tryz.prog W name (.iface nm d)) : ∃ te pe, W.cell? ⟨g, 0, none⟩ = some (.iface te pe) := by
  obtain ⟨g', t', cs, fuel, p, hg', ht', hvar, hd⟩ := h
  obtain rfl := Option.some.inj (hg.symm.trans hg')
  obtain rfl := Option.some.inj (hty.symm.trans ht')
  have hc := World.var?_cell hg hvar 0
  cases fuel with
  | zero => simp [DataW.trod] at hd
  | succ fuel =>
    simp only [DataW.trod, Tryz.underlying60] at hd
    obtain ⟨l⟩ := cs
    match l, hd, hc with
    | [], hd, hc => simp at hd
    | [x], hd, hc =>
      cases x with
      | iface u v => exact ⟨u, v, by rw [hc]; rfl⟩
      | _ => simp at hd
    | x :: y :: r, hd, hc => simp at hd
set_option maxRecDepth 100000 in
theorem ga_of {W : World} {l : List (String × DataW Unit)} (hm : laidMet Tryz.prog l W) (hsh : W.ShapedOpen Tryz.prog)
    (h1 : ("internal/strconv.uint64pow10", Rows.laid_internal_strconv_uint64pow10) ∈ l) (h2 : ("strconv.ErrSyntax", Rows.laid_strconv_ErrSyntax) ∈ l) (h3 : ("strconv.ErrRange", Rows.laid_strconv_ErrRange) ∈ l) (h4 : ("math/bits.deBruijn64tab", Rows.laid_math_bits_deBruijn64tab) ∈ l)
    (h5 : ("unicode/utf8.acceptRanges", Rows.laid_unicode_utf8_acceptRanges) ∈ l) (h6 : ("potsherd/parse.words", Rows.laid_potsherd_parse_words) ∈ l) (h7 : ("potsherd/parse.aggregates", Rows.laid_potsherd_parse_aggregates) ∈ l) (h8 : ("unicode/utf8.first", Rows.laid_unicode_utf8_first) ∈ l) : GA W := by
  have r1 := laidMet.reads hm h1
  have r2 := laidMet.reads hm h2
  have r3 := laidMet.reads hm h3
  have r4 := laidMet.reads hm h4
  have r5 := laidMet.reads hm h5
  have r6 := laidMet.reads hm h6
  have r7 := laidMet.reads hm h7
  have r8 := laidMet.reads hm h8
  rw [pow_eq] at r1
  rw [bru_eq] at r4
  rw [accept_eq] at r5
  rw [words_eq] at r6
  rw [aggs_eq] at r7
  rw [show Rows.laid_unicode_utf8_first = Lib.firstData from Pinned.utf8First_eq] at r8
  have t1 := tab_reads (g := 5) (by kernel_rfl) (by kernel_rfl) Tryz.underlying173 Tryz.underlying66 (by kernel_rfl) (by kernel_rfl) r1
  have t4 := tab_reads (g := 9) (by kernel_rfl) (by kernel_rfl) Tryz.underlying189 Tryz.underlying5 (by kernel_rfl) (by kernel_rfl) r4
  have t6 := pairs_reads (l := wordsP) (g := 2) rfl (by kernel_rfl) (by kernel_rfl) Tryz.underlying108 Tryz.underlying107 (by kernel_rfl) rfl rfl Tryz.underlying9 (by kernel_rfl) rfl rfl (by kernel_rfl) (by kernel_rfl) r6
  have t7 := pairs_reads (l := aggsP) (g := 3) rfl (by kernel_rfl) (by kernel_rfl) Tryz.underlying111 Tryz.underlying110 (by kernel_rfl) rfl rfl Tryz.underlying9 (by kernel_rfl) rfl rfl (by kernel_rfl) (by kernel_rfl) r7
  have t8 := utf8Tabs_of_readsT (ρ := Tryz.laysValid_ren) (U8Types.of196 Tryz.laysValid) ⟨by kernel_rfl, by kernel_rfl, by kernel_rfl, by kernel_rfl, by kernel_rfl, by kernel_rfl, by kernel_rfl⟩ r8 r5
  have c9 := TabIs.cell (g := 9) t4 (by kernel_rfl) 15 (by decide)
  have hb := World.block_lt_of_cell? W _ c9
  exact ⟨⟨⟨t1, iface_reads (g := 6) (by kernel_rfl) (by kernel_rfl) r2, iface_reads (g := 7) (by kernel_rfl) (by kernel_rfl) r3⟩, c9⟩, ⟨⟨t6, t7⟩, t8, cell_of_shapedOpen_int hsh (t := 3) (zero := #[.int .i64 0]) (of_decide_eq_true (by kernel_rfl)) (by kernel_rfl) rfl (by kernel_rfl) (by kernel_rfl) (by kernel_rfl)⟩, by show 10 ≤ W.heap.size; exact hb⟩
end Go.Proofs.YtnmmojhbcnlboaaGreatDoor
/-
  The law ParseWrites answers true for every query, every list of steps and every step, and they read behind the call as they read before: Print, Show, Takes, Check and Right answer what a plain reading of the document answers.
  Condition: the listed tables of utf8, strconv, math/bits and parse hold what the program text lays (the card ties that).
-/
namespace Go.Proofs.YtnmmojhbcnlboaaGreatDoor
open Go.ChangeShapes Go.WideShapes Go.ChangeAt Go.RowKit Go.Joins
open Go.ChangeMaps (open_string shut_string)

/-- The wrap that keeps both the world's shape and what the listed variables hold. -/
theorem handed_laid_shaped {H : Type} {enc : TypeId × Value → H} {a : Assume} {C : Checked} {os : Os} {f : FuncId} {fn : Func} {s : ChangeSpec} {conds : List PathCond} {apart fresh handsOn again : Bool} {X : World → Array Value → Prop}
    (hX : ∀ (w w' : World) (args : Array Value), w.heap = w'.heap → X w args → X w' args)
    (own : ownKnob C.prog.godebug = none) (started : os.Started) (noInit : C.prog.inits.idxOf? f = none) (hfn : C.prog.funcs[f]? = some fn)
    (witness : ∃ (w : World) (tape : Tape) (i : Input), w.os = os ∧ (w.forCall tape i).Shaped C.prog ∧ i.vars = [] ∧ Input.okWide C.prog (w.forCall tape i) .any w.heap.size f i ∧
      ((s.pre enc C.prog fn conds apart (w.forCall tape i).memory i.args ∧ X (w.forCall tape i).memory i.args) ∧ sizedMet enc C.prog fn (OpenSpec.ofChange s) apart (w.forCall tape i).memory i.args) ∧ a.holds C.prog (lone (Frame.enter C.prog f i.args .normal) [] (w.forCall tape i)))
    (contract : ∀ (W : World) (base : Nat) (args : Array Value) (ds gs : List (DataW H)) (before : List MemPlace),
      (∀ (j : Nat) t v, fn.params[j]? = some t → args[j]? = some v → Value.okWide C.prog W .any base t v) →
      DataW.Whole enc C.prog fn.params.toList s.vars apart W args.toList ds gs before →
      (DataW.weightsEach C.prog (fn.params.toList ++ s.plain.varTypes C.prog) (ds ++ gs)).all (· ≤ reachBytes) = true → X W args → W.ShapedOpen C.prog →
      Calls C.prog f args W fun e W' => ∃ v, e = .returned v ∧ s.post enc C.prog fn apart fresh handsOn again W args v W') :
    ReturnsInHanded a C os f .any (fun w args => (s.pre enc C.prog fn conds apart w args ∧ X w args) ∧ sizedMet enc C.prog fn (OpenSpec.ofChange s) apart w args) (s.post enc C.prog fn apart fresh handsOn again) := by
  refine returnsInHanded_of_calls own started noInit witness ?_
  intro w tape i _ hsh _ hok hpre hholds
  obtain ⟨_, _, _, fn', hfn', _, _, _, _, hval⟩ := hok
  have e : fn' = fn := Option.some.inj (hfn'.symm.trans hfn)
  subst e
  obtain ⟨⟨⟨ds, gs, before, hw, hc⟩, hx⟩, hz⟩ := hpre
  have hw' := DataW.Whole.of_heap (w' := w.forCall tape i) (by rfl) hw
  refine (contract (w.forCall tape i) w.heap.size i.args ds gs before hval hw' (hz.weights hw) (hX _ _ _ (by rfl) hx) hsh).mono fun e W' ⟨v, he, hp⟩ => ?_
  subst he
  exact ChangeSpec.post_blind hp


theorem laidOut : laidOutB Tryz.prog = true := by kernel_rfl
set_option maxRecDepth 100000 in
theorem writes_lifted (os : Os) (started : os.Started) (H : Type) (enc : TypeId × Value → H) :
    ReturnsInHanded {} Tryz.checked os 3 .any (fun w args => (Rows.parseWritesSpec.pre enc Tryz.prog Tryz.f3 Rows.parseWritesRow.domain false w args ∧ laidMetH Tryz.prog Rows.parseWritesRow.laid w) ∧ sizedMet enc Tryz.prog Tryz.f3 (OpenSpec.ofChange Rows.parseWritesSpec) false w args)
      (Rows.parseWritesSpec.post enc Tryz.prog Tryz.f3 false true false false) := by
  refine handed_laid_shaped (C := Tryz.checked) (X := fun w _ => laidMetH Tryz.prog Rows.parseWritesRow.laid w) (fun _ _ _ hh h => h.of_heap hh) own started (by kernel_rfl) Tryz.func3
    (ChangeSpec.witness_shaped (enc := enc) (C := Tryz.checked) (os := os) (X := fun w _ => laidMetH Tryz.prog Rows.parseWritesRow.laid w) false (World.laidAll Tryz.prog os Rows.parseWritesRow.laid) #[.agg #[.slice none 0 0, .string ⟨#[]⟩, .string ⟨#[]⟩, .string ⟨#[]⟩, .string ⟨#[]⟩, .slice none 0 0, .slice none 0 0], .slice none 0 0, .agg #[.int .u8 0, .string ⟨#[]⟩, .int .i64 0]] 8 (World.laidAll_os _ _ _)
      (World.shaped_of_ZipB (by kernel_rfl) (by kernel_rfl)) (by kernel_rfl) (by kernel_rfl) (by kernel_rfl)
      (by rw [MakeChecks.laidMetH_plain _ _ _ (by kernel_rfl)]; exact laidMet_laidAll _ (by kernel_rfl) (by kernel_rfl))) ?_
  intro W base args ds gs before hval0 hW hsz0 hL hsh
  have hval : ∀ (j : Nat) t v, Tryz.f3.params[j]? = some t → args[j]? = some v → Value.okWide Tryz.prog W .any base t v := hval0
  have hW' := hW
  obtain ⟨p, q, hA0, hV, rfl, _, _⟩ := hW
  have hA : DataW.TrodAll enc Tryz.prog W 0 (fun _ => true) true Tryz.f3.params.toList args.toList ds p := hA0
  have hsz := hsz0
  rw [Tryz.params3] at hA hval hsz
  obtain ⟨v0, v1, v2, d0, d1, d2, p0, p1, p2, rfl, rfl, rfl, h0, h1, h2⟩ := trodAll_three hA
  obtain ⟨rfl, rfl⟩ := trodVars_none hV
  obtain ⟨cs, rfl, hcs⟩ := okWide_struct Tryz.underlying26 (hval 0 26 v0 rfl rfl)
  rw [show Tryz.prog.cellsOf 26 = 7 by kernel_rfl] at hcs
  obtain ⟨pz, nz, cz, rfl⟩ := okWide_slice Tryz.underlying23 (hval 1 23 v1 rfl rfl)
  obtain ⟨ss, rfl, hss⟩ := okWide_struct Tryz.underlying29 (hval 2 29 v2 rfl rfl)
  rw [show Tryz.prog.cellsOf 29 = 3 by kernel_rfl] at hss
  clear hA0 hval0 hsz0
  simp only [List.append_nil] at hW'
  have hlt0 : ∀ x ∈ p0, x.block < W.heap.size := fun x hx => by simpa using hW'.lt x (by simp [hx])
  have hlt1 : ∀ x ∈ p1, x.block < W.heap.size := fun x hx => by simpa using hW'.lt x (by simp [hx])
  have hlt2 : ∀ x ∈ p2, x.block < W.heap.size := fun x hx => by simpa using hW'.lt x (by simp [hx])
  obtain ⟨fu, hfu⟩ := id h0
  obtain ⟨fv, hfv⟩ := id h1
  obtain ⟨fx, hfx⟩ := id h2
  have hcl : cs.toList.length = 7 := by simpa using hcs
  have hsl : ss.toList.length = 3 := by simpa using hss
  have hlim0 : Ag.Lim 26 d0 := fun k hk => by
    have := List.all_eq_true.1 hsz k (DataW.weights_mem_each (j := 0) rfl rfl k hk)
    simpa using this
  have hlim1 : Ag.Lim 23 d1 := fun k hk => by
    have := List.all_eq_true.1 hsz k (DataW.weights_mem_each (j := 1) rfl rfl k hk)
    simpa using this
  have hlim2 : Ag.Lim 29 d2 := fun k hk => by
    have := List.all_eq_true.1 hsz k (DataW.weights_mem_each (j := 2) rfl rfl k hk)
    simpa using this
  obtain ⟨qq, pi, pw, pg, ci, cw, cg, hce, hls⟩ := Ag.reads_qry (x := (d0, p0)) hfu hlim0 hcl
  have hce2 : cs = qq.cl (.slice pi qq.i.length ci) (.slice pw qq.w.length cw) (.slice pg qq.g.length cg) := Array.ext' hce
  obtain ⟨ll, hll⟩ := Ag.reads_list (x := (d1, p1)) Tryz.underlying23 (by kernel_rfl) (by kernel_rfl) (by omega) Ag.reads_stp (v := .slice pz nz cz) (by simpa [Value.cells] using hfv) hlim1
  obtain ⟨pz', cz', ez, -⟩ := id hll
  simp only [Value.slice.injEq] at ez
  obtain ⟨rfl, rfl, rfl⟩ := ez
  obtain ⟨sx, hsx, hok⟩ := Ag.reads_stp _ _ _ _ _ (d2, p2) hfx hlim2 hsl
  have hse : ss = #[.int .u8 (sx.k : Int), .string ⟨sx.t.toArray⟩, .int .i64 sx.n] := Array.ext' hsx
  have core := Rf.writes_walk pi pw pg pz ci cw cg cz qq ll sx W hls hll hok (ga_of (l := Rows.parseWritesRow.laid) (by have h := hL; rw [MakeChecks.laidMetH_plain _ _ _ (by kernel_rfl)] at h; exact h) hsh (.tail _ (.tail _ (.head _))) (.tail _ (.tail _ (.tail _ (.tail _ (.tail _ (.head _)))))) (.tail _ (.tail _ (.tail _ (.tail _ (.head _))))) (.tail _ (.head _))
    (.tail _ (.tail _ (.tail _ (.head _)))) (.tail _ (.tail _ (.tail _ (.tail _ (.tail _ (.tail _ (.head _))))))) (.tail _ (.tail _ (.tail _ (.tail _ (.tail _ (.tail _ (.tail _ (.head _)))))))) (.tail _ (.tail _ (.tail _ (.tail _ (.tail _ (.tail _ (.tail _ (.tail _ (.head _))))))))))
  unfold Stp.v at core
  rw [← hce2, ← hse] at core
  refine core.mono ?_
  rintro e W' ⟨rfl, bel⟩
  refine ⟨_, rfl, _, _, _, [], p0 ++ (p1 ++ p2), [], hW', ?_, ?_, ?_, bel.frame _, fun h => by cases h⟩
  · exact trodAll_mk1 (shut_bool Tryz.underlying4 _)
  · exact trodAll_mk3 (Below.trod laidOut (by kernel_rfl) (of_decide_eq_true (by kernel_rfl)) h0 bel hlt0) (Below.trod laidOut (by kernel_rfl) (of_decide_eq_true (by kernel_rfl)) h1 bel hlt1) (Below.trod laidOut (by kernel_rfl) (of_decide_eq_true (by kernel_rfl)) h2 bel hlt2)
  · rfl

theorem writes_holds : Rows.ParseWritesSaid :=
  OpenClaim.holds_of_wide 3 Tryz.f3 rfl rfl rfl rfl rfl rfl rfl ⟨rfl, rfl, rfl, rfl, rfl⟩ rfl rfl rfl rfl rfl (by kernel_rfl) Tryz.func3 (by kernel_rfl)
    (of_decide_eq_true (by kernel_rfl)) (by unfold Func.isWrapper; first | (rw [if_pos (by decide +kernel)]; kernel_rfl) | (rw [if_neg (by decide +kernel)]; exact ⟨rfl, rfl⟩))
    (fun os started H enc _ => writes_lifted os started H enc)
theorem writes_card : Rows.ParseWritesCardSaid :=
  Claim7.holds_tied_plain_at .later [] _ _ _ _ writes_holds (fun _ h => by cases h) (by kernel_rfl) (fun _ h => by cases h) parseWrites_row_tie rfl ⟨rfl, rfl⟩ (by kernel_rfl) rfl
    (fun f fn hf hfn => by
      obtain rfl : f = 3 := Option.some.inj ((show Tryz.prog.funcNamed "potsherd/potsherdlaw03.ParseWrites" = some 3 by kernel_rfl).symm.trans hf) |>.symm
      obtain rfl : fn = Tryz.f3 := (Option.some.inj (Tryz.func3.symm.trans hfn)).symm
      exact ⟨by kernel_rfl, fun j t ht => by
        rw [Tryz.params3] at ht
        have hm : t ∈ [26, 23, 29] := by simpa using Array.mem_of_getElem? ht
        have hall : ([26, 23, 29].all fun u => !Tryz.prog.wantsStandIn u) = true := by kernel_rfl
        exact (show Tryz.prog.wantsStandIn t = false by simpa using List.all_eq_true.1 hall t hm)⟩)
    (by kernel_rfl)
#print axioms writes_card
end Go.Proofs.YtnmmojhbcnlboaaGreatDoor
