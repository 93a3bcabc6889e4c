/- A message as an argument: how it is read. -/
import Derived.Test.YtajomnfeicfdlaaGreatDoorNaNbNcNd
import Derived.ProofKit
import Derived.OpenShut
import Derived.Lib.SmallJoins
import Derived.Deep.Slices
import Derived.SizedLaws
namespace Go.Proofs.YtajomnfeicfdlaaGreatDoor
open Go.ChangeShapes Go.WideShapes Go.ChangeAt Go.RowKit Go.Joins Go.Deep
open Go.ChangeMaps (open_string shut_string)
set_option linter.unusedVariables false
set_option linter.unusedSimpArgs false
/-- How great a datum's parts are. -/
def Lim {H : Type} (t : TypeId) (d : DataW H) : Prop := ∀ n ∈ d.weights Tryz.prog t, n ≤ reachBytes
/-- The cells of a type are a part. -/
def ReadsAs {α : Type} (rel : Rel α) (t sz : Nat) : Prop := ∀ (H : Type) (enc : TypeId × Value → H) (W : World) (fuel : Nat) (cs : List Value) (x : DataW H × List MemPlace), DataW.trod enc Tryz.prog W 0 (fun _ => true) true fuel t cs = some x → Lim t x.1 → cs.length = sz → ∃ y, rel (fun b => b < W.heap.size) W cs y
theorem rb : reachBytes = 140737488351232 := rfl
theorem weights_all {H : Type} {P : Program} {e : TypeId} : ∀ {ds : List (DataW H)} {d : DataW H}, d ∈ ds → ∀ n ∈ d.weights P e, n ∈ DataW.weightsAll P e ds
 | d0 :: ds, d, hd, n, hn => by
  simp only [DataW.weightsAll, List.mem_append]
  rcases List.mem_cons.1 hd with rfl | hd
  ·exact .inl hn
  ·exact .inr (weights_all hd n hn)
theorem plain_addr {W : World} {a : Addr} {v : Value} (h : W.cell? (a.add 0) = some v) : a = ⟨a.block, a.off, none⟩ ∧ a.block < W.heap.size := by
 have hs := World.cell?_spot h
 obtain ⟨b, o, sp⟩ := a
 simp [Addr.add] at hs
 subst hs
 refine ⟨rfl, ?_⟩
 by_cases hb : b < W.heap.size
 ·exact hb
 ·have : W.heap[b]? = none := Array.getElem?_eq_none (by omega)
  simp [World.cell?, Addr.add, this] at h
set_option maxRecDepth 100000 in
/-- A list that is handed in. -/
theorem reads_list {α : Type} {rel : Rel α} {t e sz bts : Nat} (hu : Tryz.prog.underlying t = some (.slice e)) (hc : Tryz.prog.cellsOf e = sz) (hby : Tryz.prog.bytesOf e = bts) (hsz : 0 < sz) (hr : ReadsAs rel e sz)
  {H : Type} {enc : TypeId × Value → H} {W : World} {fuel : Nat} {v : Value} {x : DataW H × List MemPlace} (h : DataW.trod enc Tryz.prog W 0 (fun _ => true) true fuel t [v] = some x) (hl : Lim t x.1) : ∃ xs : List α, ListIs rel sz bts (fun b => b < W.heap.size) W v xs := by
 rcases open_slice hu h with ⟨hcs, hx⟩ | ⟨a, len, cap, m, n, D, Pl, hcs, hb, hle, hm, hmm, hx, hel⟩
 ·simp only [List.cons.injEq, and_true] at hcs
  subst hcs
  exact ⟨[], ListIs.nil _ _ _ _ _⟩
 ·simp only [List.cons.injEq, and_true] at hcs
  subst hcs
  simp only [if_true] at hmm
  subst hmm
  rw [hc] at hel
  subst hx
  have hbytes : len * bts ≤ 140737488355328 := by
   have := hl ((((List.range len).map D).length + ((List.range (m - len)).map fun j => D (len + j)).length) * bts) (by simp [DataW.weights, hu, hby])
   simp only [List.length_map, List.length_range] at this
   have e1 : len * bts ≤ (len + (m - len)) * bts := Nat.mul_le_mul_right _ (by omega)
   have := rb
   omega
  have each : ∀ i, i < len → ∃ (q : List Value × α), q.1.length = sz ∧ (∀ j u, q.1[j]? = some u → W.cell? ((a.add (i * sz)).add j) = some u) ∧ rel (fun b => b < W.heap.size) W q.1 q.2 := by
   intro i hi
   obtain ⟨cs, g1, g2⟩ := hel i (by omega)
   obtain ⟨_, hlen, hcell⟩ := World.cells?_some g1
   obtain ⟨y, hy⟩ := hr H enc W n cs (D i, Pl i) g2 (fun k hk => hl k (by
    simp only [DataW.weights, hu, List.mem_cons, List.mem_append]
    exact .inr (.inl (weights_all (List.mem_map.2 ⟨i, by simpa using hi, rfl⟩) k hk)))) hlen
   refine ⟨(cs, y), hlen, fun j u hj => ?_, hy⟩
   have hjl : j < cs.length := (List.getElem?_eq_some_iff.1 hj).1
   rw [hcell j (by omega)]
   exact hj
  by_cases h0 : len = 0
  ·subst h0
   exact ⟨[], some a, m, by simp, by simp, fun h => by simp at h⟩
  ·have each0 := each 0 (by omega)
   haveI : Inhabited (List Value × α) := ⟨each0.choose⟩
   obtain ⟨X, hX⟩ := choose_lt each
   obtain ⟨z1, z2, _⟩ := hX 0 (by omega)
   obtain ⟨u0, hu0⟩ : ∃ u, (X 0).1[0]? = some u := ⟨_, List.getElem?_eq_getElem (by omega)⟩
   have ha := z2 0 u0 hu0
   rw [Nat.zero_mul, add_add, Nat.add_zero] at ha
   obtain ⟨hp, hbl⟩ := plain_addr ha
   refine ⟨(List.range len).map fun i => (X i).2, some a, m, by simp, by simpa using hbytes, fun _ => ⟨a.block, a.off, by rw [← hp], hbl, fun j hj => ?_⟩⟩
   simp at hj
   obtain ⟨k1, k2, k3⟩ := hX j hj
   refine ⟨(X j).1, k1, fun i u hi => ?_, by simpa using k3⟩
   have := k2 i u hi
   rw [add_add, hp, add_plain] at this
   rw [← Nat.add_assoc] at this
   exact this
/-- A field of a struct. -/
theorem fld_at {H : Type} {enc : TypeId × Value → H} {W : World} {fuel t : Nat} {cs : List Value} {x : DataW H × List MemPlace} {fs : Array Field} (ht : Tryz.prog.underlying t = some (.struct fs)) (h : DataW.trod enc Tryz.prog W 0 (fun _ => true) true fuel t cs = some x) (hl : Lim t x.1) (i : Nat) (f : Field) (hf : fs[i]? = some f) (e n : Nat) (he : f.type = e) (o : Nat) (ho : f.offset = o) (hn : Tryz.prog.cellsOf e = n) :
  ∃ m y, DataW.trod enc Tryz.prog W 0 (fun _ => true) true m e ((cs.drop o).take n) = some y ∧ Lim e y.1 := by
 obtain ⟨xs, m, _, rfl, _, hlen, hall⟩ := DataW.trod_struct ht h
 subst he ho hn
 have h1 := hall i f hf
 have hi : i < xs.length := by rw [hlen]; exact (Array.getElem?_eq_some_iff.1 hf).1
 rw [List.getElem?_eq_getElem hi] at h1
 refine ⟨m, xs[i], h1, fun k hk => hl k ?_⟩
 simp only [DataW.weights, ht]
 exact DataW.weights_mem_each (j := i) (by rw [List.getElem?_map, Array.getElem?_toList, hf]; rfl) (by rw [List.getElem?_map, List.getElem?_eq_getElem hi]; rfl) k hk
theorem int_at {H : Type} {enc : TypeId × Value → H} {W : World} {fuel t : Nat} {k : IntKind} {cs : List Value} {x : DataW H × List MemPlace} (hu : Tryz.prog.underlying t = some (.int k)) (h : DataW.trod enc Tryz.prog W 0 (fun _ => true) true fuel t cs = some x) : ∃ n, cs = [.int k n] ∧ (Lit.int k n).wf = true := by
 obtain ⟨n, e, _, w⟩ := DataW.trod_int hu h
 exact ⟨n, e, w⟩
theorem str_at {H : Type} {enc : TypeId × Value → H} {W : World} {fuel t : Nat} {cs : List Value} {x : DataW H × List MemPlace} (hu : Tryz.prog.underlying t = some .string) (h : DataW.trod enc Tryz.prog W 0 (fun _ => true) true fuel t cs = some x) (hl : Lim t x.1) : ∃ s, cs = [.string s] ∧ small s := by
 obtain ⟨s, e, hx, _⟩ := DataW.trod_string hu h
 refine ⟨s, e, ?_⟩
 have := hl s.data.toList.length (by rw [hx]; simp [DataW.weights])
 have h2 : s.data.toList.length = s.size := by simp
 have := rb
 show s.size ≤ _
 omega
theorem one_of {cs : List Value} {o n : Nat} {v : Value} (h : (cs.drop o).take n = [v]) : cs[o]? = some v := by
 have h0 : ((cs.drop o).take n)[0]? = some v := by rw [h]; rfl
 have hn : 0 < n := by
  cases n with
  | zero => simp at h
  | succ n => omega
 rw [List.getElem?_take_of_lt hn, List.getElem?_drop] at h0
 simpa using h0
theorem u8_of {n : Int} (h : (Lit.int .u8 n).wf = true) : ∃ k : Nat, n = (k : Int) ∧ k < 256 := by
 have := bounds_u8 h
 exact ⟨n.toNat, by omega, by omega⟩
theorem u64_of {n : Int} (h : (Lit.int .u64 n).wf = true) : ∃ k : Nat, n = (k : Int) ∧ k < 18446744073709551616 := by
 have := bounds_u64 h
 exact ⟨n.toNat, by omega, by omega⟩
theorem i64_of {n : Int} (h : (Lit.int .i64 n).wf = true) : I64 n := by
 have := bounds_i64 h
 exact ⟨by omega, by omega⟩
end Go.Proofs.YtajomnfeicfdlaaGreatDoor
/- The parts of a message, and a message, as an argument. -/
namespace Go.Proofs.YtajomnfeicfdlaaGreatDoor
open Go.ChangeShapes Go.WideShapes Go.ChangeAt Go.RowKit Go.Joins Go.Deep
set_option linter.unusedVariables false
set_option linter.unusedSimpArgs false
theorem in_of {cs : List Value} {o n j : Nat} {v : Value} (h : ((cs.drop o).take n)[j]? = some v) : cs[o + j]? = some v := by
 rw [List.getElem?_take] at h
 split at h
 ·rwa [List.getElem?_drop] at h
 ·cases h
theorem one_ex {cs : List Value} {o : Nat} (h : o < cs.length) : ∃ v, (cs.drop o).take 1 = [v] := by
 cases hd : cs.drop o with
 | nil => have := congrArg List.length hd; simp at this; omega
 | cons a l => exact ⟨a, by simp⟩
theorem len_in {cs : List Value} {o n : Nat} (h : o + n ≤ cs.length) : ((cs.drop o).take n).length = n := by
 rw [List.length_take, List.length_drop]; omega
theorem bool_at {H : Type} {enc : TypeId × Value → H} {W : World} {fuel t : Nat} {cs : List Value} {x : DataW H × List MemPlace} (hu : Tryz.prog.underlying t = some .bool) (h : DataW.trod enc Tryz.prog W 0 (fun _ => true) true fuel t cs = some x) : ∃ b, cs = [.bool b] := by
 obtain ⟨b, e, _⟩ := DataW.trod_bool hu h
 exact ⟨b, e⟩
theorem dt {cl : List Value} {a n b m : Nat} (h : b + m ≤ n) : (((cl.drop a).take n).drop b).take m = (cl.drop (a + b)).take m := by
 rw [List.drop_take, List.take_take, List.drop_drop, Nat.min_eq_left (by omega)]
theorem list_ext {l m : List Value} (hl : l.length = m.length) (h : ∀ (j : Nat) (v : Value), m[j]? = some v → l[j]? = some v) : l = m := by
 apply List.ext_getElem?
 intro j
 by_cases hj : j < m.length
 ·rw [List.getElem?_eq_getElem hj]; exact h j _ (List.getElem?_eq_getElem hj)
 ·rw [List.getElem?_eq_none (by omega), List.getElem?_eq_none (by omega)]
theorem reads_int : ReadsAs rInt 3 1 := fun H enc W fuel cs x h hl hn => by
 obtain ⟨n, e, w⟩ := int_at Tryz.underlying3 h
 exact ⟨n, e, i64_of w⟩
theorem reads_txt : ReadsAs rTxt 9 1 := fun H enc W fuel cs x h hl hn => by
 obtain ⟨s, e, w⟩ := str_at Tryz.underlying9 h hl
 exact ⟨s, e, w⟩
theorem reads_knd : ReadsAs rKnd 146 1 := fun H enc W fuel cs x h hl hn => by
 obtain ⟨n, e, w⟩ := int_at Tryz.underlying146 h
 obtain ⟨k, rfl, q⟩ := u8_of w
 exact ⟨k, e, q⟩
theorem reads_num : ReadsAs rNum 25 1 := fun H enc W fuel cs x h hl hn => by
 obtain ⟨n, e, w⟩ := int_at Tryz.underlying25 h
 obtain ⟨k, rfl, q⟩ := u64_of w
 exact ⟨k, e, q⟩
theorem reads_boo : ReadsAs rBoo 4 1 := fun H enc W fuel cs x h hl hn => by
 obtain ⟨b, e⟩ := bool_at Tryz.underlying4 h
 exact ⟨b, e, trivial⟩
theorem reads_slice {α : Type} {rel : Rel α} {t e sz bts : Nat} (hu : Tryz.prog.underlying t = some (.slice e)) (hc : Tryz.prog.cellsOf e = sz) (hby : Tryz.prog.bytesOf e = bts) (hsz : 0 < sz) (hr : ReadsAs rel e sz) : ReadsAs (fun K W cs (x : List α) => ∃ v, cs = [v] ∧ ListIs rel sz bts K W v x) t 1 := fun H enc W fuel cs x h hl hn => by
 match cs, hn with
 | [v], _ =>
  obtain ⟨xs, hx⟩ := reads_list hu hc hby hsz hr h hl
  exact ⟨xs, v, rfl, hx⟩

set_option maxRecDepth 100000 in
theorem reads_val : ReadsAs rVal 184 4 := fun H enc W fuel cs x h hl hn => by
 obtain ⟨m0, y0, g0, l0⟩ := fld_at Tryz.underlying184 h hl 0 _ rfl 146 1 rfl 0 rfl (by kernel_rfl)
 obtain ⟨n0, e0, w0⟩ := int_at Tryz.underlying146 g0
 obtain ⟨k0, rfl, q0⟩ := u8_of w0
 have c0 := (one_of e0)
 obtain ⟨m1, y1, g1, l1⟩ := fld_at Tryz.underlying184 h hl 1 _ rfl 4 1 rfl 1 rfl (by kernel_rfl)
 obtain ⟨b1, e1⟩ := bool_at Tryz.underlying4 g1
 have c1 := (one_of e1)
 obtain ⟨m2, y2, g2, l2⟩ := fld_at Tryz.underlying184 h hl 2 _ rfl 2 1 rfl 2 rfl (by kernel_rfl)
 obtain ⟨n2, e2, w2⟩ := int_at Tryz.underlying2 g2
 have c2 := (one_of e2)
 obtain ⟨m3, y3, g3, l3⟩ := fld_at Tryz.underlying184 h hl 3 _ rfl 9 1 rfl 3 rfl (by kernel_rfl)
 obtain ⟨s3, e3, w3⟩ := str_at Tryz.underlying9 g3 l3
 have c3 := (one_of e3)
 have hcs : cs = [.int .u8 (k0 : Int), .bool b1, .int .i64 (n2 : Int), .string s3] := list_ext (by rw [hn]; rfl) (fun j v hj => by
  have hjl : j < 4 := (List.getElem?_eq_some_iff.1 hj).1
  match j, hjl with
  | 0, _ => cases hj; exact c0
  | 1, _ => cases hj; exact c1
  | 2, _ => cases hj; exact c2
  | 3, _ => cases hj; exact c3
  )
 exact ⟨⟨(k0 : Int), b1, n2, s3⟩, hcs, ⟨by show (0 : Int) ≤ (k0 : Int); omega, by show (k0 : Int) < 256; omega⟩, (i64_of w2), w3⟩

theorem sl112 : ReadsAs (fun K W cs x => ∃ v, cs = [v] ∧ ListIs rVal 4 32 K W v x) 155 1 := reads_slice Tryz.underlying155 (by kernel_rfl) (by kernel_rfl) (by omega) reads_val
theorem reads_row : ReadsAs rRow 155 1 := sl112
set_option maxRecDepth 100000 in
theorem reads_stp : ReadsAs rStp 137 3 := fun H enc W fuel cs x h hl hn => by
 obtain ⟨m0, y0, g0, l0⟩ := fld_at Tryz.underlying137 h hl 0 _ rfl 135 1 rfl 0 rfl (by kernel_rfl)
 obtain ⟨n0, e0, w0⟩ := int_at Tryz.underlying135 g0
 obtain ⟨k0, rfl, q0⟩ := u8_of w0
 have c0 := (one_of e0)
 obtain ⟨m1, y1, g1, l1⟩ := fld_at Tryz.underlying137 h hl 1 _ rfl 9 1 rfl 1 rfl (by kernel_rfl)
 obtain ⟨s1, e1, w1⟩ := str_at Tryz.underlying9 g1 l1
 have c1 := (one_of e1)
 obtain ⟨m2, y2, g2, l2⟩ := fld_at Tryz.underlying137 h hl 2 _ rfl 2 1 rfl 2 rfl (by kernel_rfl)
 obtain ⟨n2, e2, w2⟩ := int_at Tryz.underlying2 g2
 have c2 := (one_of e2)
 have hcs : cs = [.int .u8 (k0 : Int), .string s1, .int .i64 (n2 : Int)] := list_ext (by rw [hn]; rfl) (fun j v hj => by
  have hjl : j < 3 := (List.getElem?_eq_some_iff.1 hj).1
  match j, hjl with
  | 0, _ => cases hj; exact c0
  | 1, _ => cases hj; exact c1
  | 2, _ => cases hj; exact c2
  )
 exact ⟨⟨k0, s1, n2⟩, hcs, q0, w1, (i64_of w2)⟩

theorem sl28 : ReadsAs (fun K W cs x => ∃ v, cs = [v] ∧ ListIs rStp 3 32 K W v x) 48 1 := reads_slice Tryz.underlying48 (by kernel_rfl) (by kernel_rfl) (by omega) reads_stp
theorem sl29 : ReadsAs (fun K W cs x => ∃ v, cs = [v] ∧ ListIs rInt 1 8 K W v x) 49 1 := reads_slice Tryz.underlying49 (by kernel_rfl) (by kernel_rfl) (by omega) reads_int
theorem reads_ints : ReadsAs rInts 49 1 := sl29
set_option maxRecDepth 100000 in
theorem reads_itm : ReadsAs rItm 142 2 := fun H enc W fuel cs x h hl hn => by
 obtain ⟨m0, y0, g0, l0⟩ := fld_at Tryz.underlying142 h hl 0 _ rfl 140 1 rfl 0 rfl (by kernel_rfl)
 obtain ⟨n0, e0, w0⟩ := int_at Tryz.underlying140 g0
 obtain ⟨k0, rfl, q0⟩ := u8_of w0
 have c0 := (one_of e0)
 obtain ⟨m1, y1, g1, l1⟩ := fld_at Tryz.underlying142 h hl 1 _ rfl 48 1 rfl 1 rfl (by kernel_rfl)
 obtain ⟨z1, v1, e1, w1⟩ := sl28 _ _ _ _ _ _ g1 l1 (len_in (by omega))
 have c1 := (one_of e1)
 have hcs : cs = [.int .u8 (k0 : Int), v1] := list_ext (by rw [hn]; rfl) (fun j v hj => by
  have hjl : j < 2 := (List.getElem?_eq_some_iff.1 hj).1
  match j, hjl with
  | 0, _ => cases hj; exact c0
  | 1, _ => cases hj; exact c1
  )
 exact ⟨⟨k0, z1⟩, v1, hcs, q0, w1⟩

set_option maxRecDepth 100000 in
theorem reads_cl : ReadsAs rCl 150 2 := fun H enc W fuel cs x h hl hn => by
 obtain ⟨m0, y0, g0, l0⟩ := fld_at Tryz.underlying150 h hl 0 _ rfl 9 1 rfl 0 rfl (by kernel_rfl)
 obtain ⟨s0, e0, w0⟩ := str_at Tryz.underlying9 g0 l0
 have c0 := (one_of e0)
 obtain ⟨m1, y1, g1, l1⟩ := fld_at Tryz.underlying150 h hl 1 _ rfl 146 1 rfl 1 rfl (by kernel_rfl)
 obtain ⟨n1, e1, w1⟩ := int_at Tryz.underlying146 g1
 obtain ⟨k1, rfl, q1⟩ := u8_of w1
 have c1 := (one_of e1)
 have hcs : cs = [.string s0, .int .u8 (k1 : Int)] := list_ext (by rw [hn]; rfl) (fun j v hj => by
  have hjl : j < 2 := (List.getElem?_eq_some_iff.1 hj).1
  match j, hjl with
  | 0, _ => cases hj; exact c0
  | 1, _ => cases hj; exact c1
  )
 exact ⟨⟨s0, k1⟩, hcs, w0, q1⟩

theorem sl44 : ReadsAs (fun K W cs x => ∃ v, cs = [v] ∧ ListIs rCl 2 24 K W v x) 41 1 := reads_slice Tryz.underlying41 (by kernel_rfl) (by kernel_rfl) (by omega) reads_cl
theorem sl43 : ReadsAs (fun K W cs x => ∃ v, cs = [v] ∧ ListIs rRow 1 24 K W v x) 42 1 := reads_slice Tryz.underlying42 (by kernel_rfl) (by kernel_rfl) (by omega) reads_row
set_option maxRecDepth 100000 in
theorem reads_tbl : ReadsAs rTbl 97 3 := fun H enc W fuel cs x h hl hn => by
 obtain ⟨m0, y0, g0, l0⟩ := fld_at Tryz.underlying97 h hl 0 _ rfl 9 1 rfl 0 rfl (by kernel_rfl)
 obtain ⟨s0, e0, w0⟩ := str_at Tryz.underlying9 g0 l0
 have c0 := (one_of e0)
 obtain ⟨m1, y1, g1, l1⟩ := fld_at Tryz.underlying97 h hl 1 _ rfl 41 1 rfl 1 rfl (by kernel_rfl)
 obtain ⟨z1, v1, e1, w1⟩ := sl44 _ _ _ _ _ _ g1 l1 (len_in (by omega))
 have c1 := (one_of e1)
 obtain ⟨m2, y2, g2, l2⟩ := fld_at Tryz.underlying97 h hl 2 _ rfl 42 1 rfl 2 rfl (by kernel_rfl)
 obtain ⟨z2, v2, e2, w2⟩ := sl43 _ _ _ _ _ _ g2 l2 (len_in (by omega))
 have c2 := (one_of e2)
 have hcs : cs = [.string s0, v1, v2] := list_ext (by rw [hn]; rfl) (fun j v hj => by
  have hjl : j < 3 := (List.getElem?_eq_some_iff.1 hj).1
  match j, hjl with
  | 0, _ => cases hj; exact c0
  | 1, _ => cases hj; exact c1
  | 2, _ => cases hj; exact c2
  )
 exact ⟨⟨s0, z1, z2⟩, v1, v2, hcs, w0, w1, w2⟩

set_option maxRecDepth 100000 in
theorem reads_sr : ReadsAs rSr 58 6 := fun H enc W fuel cs x h hl hn => by
 obtain ⟨m0, y0, g0, l0⟩ := fld_at Tryz.underlying58 h hl 0 _ rfl 56 1 rfl 0 rfl (by kernel_rfl)
 obtain ⟨n0, e0, w0⟩ := int_at Tryz.underlying56 g0
 obtain ⟨k0, rfl, q0⟩ := u8_of w0
 have c0 := (one_of e0)
 obtain ⟨m1, y1, g1, l1⟩ := fld_at Tryz.underlying58 h hl 1 _ rfl 9 1 rfl 1 rfl (by kernel_rfl)
 obtain ⟨s1, e1, w1⟩ := str_at Tryz.underlying9 g1 l1
 have c1 := (one_of e1)
 obtain ⟨m2, y2, g2, l2⟩ := fld_at Tryz.underlying58 h hl 2 _ rfl 40 2 rfl 2 rfl (by kernel_rfl)
 obtain ⟨m20, y20, g20, l20⟩ := fld_at Tryz.underlying40 g2 l2 0 _ rfl 25 1 rfl 0 rfl (by kernel_rfl)
 obtain ⟨n20, e20, w20⟩ := int_at Tryz.underlying25 g20
 obtain ⟨k20, rfl, q20⟩ := u64_of w20
 have c20 := (in_of (one_of e20))
 obtain ⟨m21, y21, g21, l21⟩ := fld_at Tryz.underlying40 g2 l2 1 _ rfl 25 1 rfl 1 rfl (by kernel_rfl)
 obtain ⟨n21, e21, w21⟩ := int_at Tryz.underlying25 g21
 obtain ⟨k21, rfl, q21⟩ := u64_of w21
 have c21 := (in_of (one_of e21))
 obtain ⟨m3, y3, g3, l3⟩ := fld_at Tryz.underlying58 h hl 3 _ rfl 3 1 rfl 4 rfl (by kernel_rfl)
 obtain ⟨n3, e3, w3⟩ := int_at Tryz.underlying3 g3
 have c3 := (one_of e3)
 obtain ⟨m4, y4, g4, l4⟩ := fld_at Tryz.underlying58 h hl 4 _ rfl 49 1 rfl 5 rfl (by kernel_rfl)
 obtain ⟨z4, v4, e4, w4⟩ := sl29 _ _ _ _ _ _ g4 l4 (len_in (by omega))
 have c4 := (one_of e4)
 have hcs : cs = [.int .u8 (k0 : Int), .string s1, .int .u64 (k20 : Int), .int .u64 (k21 : Int), .int .i64 (n3 : Int), v4] := list_ext (by rw [hn]; rfl) (fun j v hj => by
  have hjl : j < 6 := (List.getElem?_eq_some_iff.1 hj).1
  match j, hjl with
  | 0, _ => cases hj; exact c0
  | 1, _ => cases hj; exact c1
  | 2, _ => cases hj; exact c20
  | 3, _ => cases hj; exact c21
  | 4, _ => cases hj; exact c3
  | 5, _ => cases hj; exact c4
  )
 exact ⟨⟨k0, s1, ⟨k20, k21⟩, n3, z4⟩, v4, hcs, q0, w1, ⟨q20, q21⟩, (i64_of w3), w4⟩

theorem sl118 : ReadsAs (fun K W cs x => ∃ v, cs = [v] ∧ ListIs rInts 1 24 K W v x) 158 1 := reads_slice Tryz.underlying158 (by kernel_rfl) (by kernel_rfl) (by omega) reads_ints
set_option maxRecDepth 100000 in
theorem reads_clm : ReadsAs rClm 160 5 := fun H enc W fuel cs x h hl hn => by
 obtain ⟨m0, y0, g0, l0⟩ := fld_at Tryz.underlying160 h hl 0 _ rfl 9 1 rfl 0 rfl (by kernel_rfl)
 obtain ⟨s0, e0, w0⟩ := str_at Tryz.underlying9 g0 l0
 have c0 := (one_of e0)
 obtain ⟨m1, y1, g1, l1⟩ := fld_at Tryz.underlying160 h hl 1 _ rfl 41 1 rfl 1 rfl (by kernel_rfl)
 obtain ⟨z1, v1, e1, w1⟩ := sl44 _ _ _ _ _ _ g1 l1 (len_in (by omega))
 have c1 := (one_of e1)
 obtain ⟨m2, y2, g2, l2⟩ := fld_at Tryz.underlying160 h hl 2 _ rfl 40 2 rfl 2 rfl (by kernel_rfl)
 obtain ⟨m20, y20, g20, l20⟩ := fld_at Tryz.underlying40 g2 l2 0 _ rfl 25 1 rfl 0 rfl (by kernel_rfl)
 obtain ⟨n20, e20, w20⟩ := int_at Tryz.underlying25 g20
 obtain ⟨k20, rfl, q20⟩ := u64_of w20
 have c20 := (in_of (one_of e20))
 obtain ⟨m21, y21, g21, l21⟩ := fld_at Tryz.underlying40 g2 l2 1 _ rfl 25 1 rfl 1 rfl (by kernel_rfl)
 obtain ⟨n21, e21, w21⟩ := int_at Tryz.underlying25 g21
 obtain ⟨k21, rfl, q21⟩ := u64_of w21
 have c21 := (in_of (one_of e21))
 obtain ⟨m3, y3, g3, l3⟩ := fld_at Tryz.underlying160 h hl 3 _ rfl 158 1 rfl 4 rfl (by kernel_rfl)
 obtain ⟨z3, v3, e3, w3⟩ := sl118 _ _ _ _ _ _ g3 l3 (len_in (by omega))
 have c3 := (one_of e3)
 have hcs : cs = [.string s0, v1, .int .u64 (k20 : Int), .int .u64 (k21 : Int), v3] := list_ext (by rw [hn]; rfl) (fun j v hj => by
  have hjl : j < 5 := (List.getElem?_eq_some_iff.1 hj).1
  match j, hjl with
  | 0, _ => cases hj; exact c0
  | 1, _ => cases hj; exact c1
  | 2, _ => cases hj; exact c20
  | 3, _ => cases hj; exact c21
  | 4, _ => cases hj; exact c3
  )
 exact ⟨⟨s0, z1, ⟨k20, k21⟩, z3⟩, v1, v3, hcs, w0, w1, ⟨q20, q21⟩, w3⟩

theorem sl30 : ReadsAs (fun K W cs x => ∃ v, cs = [v] ∧ ListIs rItm 2 32 K W v x) 50 1 := reads_slice Tryz.underlying50 (by kernel_rfl) (by kernel_rfl) (by omega) reads_itm
theorem sl31 : ReadsAs (fun K W cs x => ∃ v, cs = [v] ∧ ListIs rTxt 1 16 K W v x) 51 1 := reads_slice Tryz.underlying51 (by kernel_rfl) (by kernel_rfl) (by omega) reads_txt
theorem sl32 : ReadsAs (fun K W cs x => ∃ v, cs = [v] ∧ ListIs rKnd 1 1 K W v x) 52 1 := reads_slice Tryz.underlying52 (by kernel_rfl) (by kernel_rfl) (by omega) reads_knd
theorem sl35 : ReadsAs (fun K W cs x => ∃ v, cs = [v] ∧ ListIs rTbl 3 64 K W v x) 55 1 := reads_slice Tryz.underlying55 (by kernel_rfl) (by kernel_rfl) (by omega) reads_tbl
theorem sl47 : ReadsAs (fun K W cs x => ∃ v, cs = [v] ∧ ListIs rClm 5 80 K W v x) 61 1 := reads_slice Tryz.underlying61 (by kernel_rfl) (by kernel_rfl) (by omega) reads_clm
set_option maxRecDepth 100000 in
theorem reads_bnd : ReadsAs rBnd 54 11 := fun H enc W fuel cs x h hl hn => by
 obtain ⟨m0, y0, g0, l0⟩ := fld_at Tryz.underlying54 h hl 0 _ rfl 9 1 rfl 0 rfl (by kernel_rfl)
 obtain ⟨s0, e0, w0⟩ := str_at Tryz.underlying9 g0 l0
 have c0 := (one_of e0)
 obtain ⟨m1, y1, g1, l1⟩ := fld_at Tryz.underlying54 h hl 1 _ rfl 9 1 rfl 1 rfl (by kernel_rfl)
 obtain ⟨s1, e1, w1⟩ := str_at Tryz.underlying9 g1 l1
 have c1 := (one_of e1)
 obtain ⟨m2, y2, g2, l2⟩ := fld_at Tryz.underlying54 h hl 2 _ rfl 3 1 rfl 2 rfl (by kernel_rfl)
 obtain ⟨n2, e2, w2⟩ := int_at Tryz.underlying3 g2
 have c2 := (one_of e2)
 obtain ⟨m3, y3, g3, l3⟩ := fld_at Tryz.underlying54 h hl 3 _ rfl 3 1 rfl 3 rfl (by kernel_rfl)
 obtain ⟨n3, e3, w3⟩ := int_at Tryz.underlying3 g3
 have c3 := (one_of e3)
 obtain ⟨m4, y4, g4, l4⟩ := fld_at Tryz.underlying54 h hl 4 _ rfl 3 1 rfl 4 rfl (by kernel_rfl)
 obtain ⟨n4, e4, w4⟩ := int_at Tryz.underlying3 g4
 have c4 := (one_of e4)
 obtain ⟨m5, y5, g5, l5⟩ := fld_at Tryz.underlying54 h hl 5 _ rfl 48 1 rfl 5 rfl (by kernel_rfl)
 obtain ⟨z5, v5, e5, w5⟩ := sl28 _ _ _ _ _ _ g5 l5 (len_in (by omega))
 have c5 := (one_of e5)
 obtain ⟨m6, y6, g6, l6⟩ := fld_at Tryz.underlying54 h hl 6 _ rfl 49 1 rfl 6 rfl (by kernel_rfl)
 obtain ⟨z6, v6, e6, w6⟩ := sl29 _ _ _ _ _ _ g6 l6 (len_in (by omega))
 have c6 := (one_of e6)
 obtain ⟨m7, y7, g7, l7⟩ := fld_at Tryz.underlying54 h hl 7 _ rfl 50 1 rfl 7 rfl (by kernel_rfl)
 obtain ⟨z7, v7, e7, w7⟩ := sl30 _ _ _ _ _ _ g7 l7 (len_in (by omega))
 have c7 := (one_of e7)
 obtain ⟨m8, y8, g8, l8⟩ := fld_at Tryz.underlying54 h hl 8 _ rfl 4 1 rfl 8 rfl (by kernel_rfl)
 obtain ⟨b8, e8⟩ := bool_at Tryz.underlying4 g8
 have c8 := (one_of e8)
 obtain ⟨m9, y9, g9, l9⟩ := fld_at Tryz.underlying54 h hl 9 _ rfl 51 1 rfl 9 rfl (by kernel_rfl)
 obtain ⟨z9, v9, e9, w9⟩ := sl31 _ _ _ _ _ _ g9 l9 (len_in (by omega))
 have c9 := (one_of e9)
 obtain ⟨m10, y10, g10, l10⟩ := fld_at Tryz.underlying54 h hl 10 _ rfl 52 1 rfl 10 rfl (by kernel_rfl)
 obtain ⟨z10, v10, e10, w10⟩ := sl32 _ _ _ _ _ _ g10 l10 (len_in (by omega))
 have c10 := (one_of e10)
 have hcs : cs = [.string s0, .string s1, .int .i64 (n2 : Int), .int .i64 (n3 : Int), .int .i64 (n4 : Int), v5, v6, v7, .bool b8, v9, v10] := list_ext (by rw [hn]; rfl) (fun j v hj => by
  have hjl : j < 11 := (List.getElem?_eq_some_iff.1 hj).1
  match j, hjl with
  | 0, _ => cases hj; exact c0
  | 1, _ => cases hj; exact c1
  | 2, _ => cases hj; exact c2
  | 3, _ => cases hj; exact c3
  | 4, _ => cases hj; exact c4
  | 5, _ => cases hj; exact c5
  | 6, _ => cases hj; exact c6
  | 7, _ => cases hj; exact c7
  | 8, _ => cases hj; exact c8
  | 9, _ => cases hj; exact c9
  | 10, _ => cases hj; exact c10
  )
 exact ⟨⟨s0, s1, n2, n3, n4, z5, z6, z7, b8, z9, z10⟩, v5, v6, v7, v9, v10, hcs, w0, w1, (i64_of w2), (i64_of w3), (i64_of w4), w5, w6, w7, w9, w10⟩

set_option maxRecDepth 100000 in
theorem reads_vrs : ReadsAs rVrs 27 2 := fun H enc W fuel cs x h hl hn => by
 obtain ⟨m0, y0, g0, l0⟩ := fld_at Tryz.underlying27 h hl 0 _ rfl 25 1 rfl 0 rfl (by kernel_rfl)
 obtain ⟨n0, e0, w0⟩ := int_at Tryz.underlying25 g0
 obtain ⟨k0, rfl, q0⟩ := u64_of w0
 have c0 := (one_of e0)
 obtain ⟨m1, y1, g1, l1⟩ := fld_at Tryz.underlying27 h hl 1 _ rfl 25 1 rfl 1 rfl (by kernel_rfl)
 obtain ⟨n1, e1, w1⟩ := int_at Tryz.underlying25 g1
 obtain ⟨k1, rfl, q1⟩ := u64_of w1
 have c1 := (one_of e1)
 have hcs : cs = [.int .u64 (k0 : Int), .int .u64 (k1 : Int)] := list_ext (by rw [hn]; rfl) (fun j v hj => by
  have hjl : j < 2 := (List.getElem?_eq_some_iff.1 hj).1
  match j, hjl with
  | 0, _ => cases hj; exact c0
  | 1, _ => cases hj; exact c1
  )
 exact ⟨⟨k0, k1⟩, hcs, q0, q1⟩

set_option maxRecDepth 100000 in
theorem reads_frg : ReadsAs rFrg 60 17 := fun H enc W fuel cs x h hl hn => by
 obtain ⟨m0, y0, g0, l0⟩ := fld_at Tryz.underlying60 h hl 0 _ rfl 3 1 rfl 0 rfl (by kernel_rfl)
 obtain ⟨n0, e0, w0⟩ := reads_int _ _ _ _ _ _ g0 l0 (len_in (by omega))
 obtain ⟨m1, y1, g1, l1⟩ := fld_at Tryz.underlying60 h hl 1 _ rfl 3 1 rfl 1 rfl (by kernel_rfl)
 obtain ⟨n1, e1, w1⟩ := reads_int _ _ _ _ _ _ g1 l1 (len_in (by omega))
 obtain ⟨m2, y2, g2, l2⟩ := fld_at Tryz.underlying60 h hl 2 _ rfl 58 6 rfl 2 rfl (by kernel_rfl)
 obtain ⟨x2, w2⟩ := reads_sr _ _ _ _ _ _ g2 l2 (len_in (by omega))
 obtain ⟨m3, y3, g3, l3⟩ := fld_at Tryz.underlying60 h hl 3 _ rfl 58 6 rfl 8 rfl (by kernel_rfl)
 obtain ⟨x3, w3⟩ := reads_sr _ _ _ _ _ _ g3 l3 (len_in (by omega))
 obtain ⟨m4, y4, g4, l4⟩ := fld_at Tryz.underlying60 h hl 4 _ rfl 4 1 rfl 14 rfl (by kernel_rfl)
 obtain ⟨b4, e4, _⟩ := reads_boo _ _ _ _ _ _ g4 l4 (len_in (by omega))
 obtain ⟨m5, y5, g5, l5⟩ := fld_at Tryz.underlying60 h hl 5 _ rfl 3 1 rfl 15 rfl (by kernel_rfl)
 obtain ⟨n5, e5, w5⟩ := reads_int _ _ _ _ _ _ g5 l5 (len_in (by omega))
 obtain ⟨m6, y6, g6, l6⟩ := fld_at Tryz.underlying60 h hl 6 _ rfl 49 1 rfl 16 rfl (by kernel_rfl)
 obtain ⟨z6, v6, e6, w6⟩ := sl29 _ _ _ _ _ _ g6 l6 (len_in (by omega))
 refine ⟨⟨n0, n1, x2, x3, b4, n5, z6⟩, _, _, v6, ?_, w0, w1, w2, w3, w5, w6⟩
 have a0 : cs = cs.take 1 ++ cs.drop 1 := (List.take_append_drop 1 cs).symm
 have cut : ∀ a n, cs.drop a = (cs.drop a).take n ++ cs.drop (a + n) := fun a n => by
  have := (List.take_append_drop n (cs.drop a)).symm
  rwa [List.drop_drop] at this
 have c0 := cut 0 1
 have c1 := cut 1 1
 have c2 := cut 2 6
 have c3 := cut 8 6
 have c4 := cut 14 1
 have c5 := cut 15 1
 have c6 := cut 16 1
 have c7 : cs.drop 17 = [] := List.drop_eq_nil_of_le (by omega)
 simp only [Nat.reduceAdd] at c0 c1 c2 c3 c4 c5 c6
 rw [e0] at c0
 rw [e1] at c1
 rw [e4] at c4
 rw [e5] at c5
 rw [e6] at c6
 have hc : cs = cs.drop 0 := rfl
 conv => lhs; rw [hc, c0, c1, c2, c3, c4, c5, c6, c7]
 simp
set_option maxRecDepth 100000 in
set_option maxHeartbeats 4000000 in
/-- A message as an argument. -/
theorem reads_msg {H : Type} {enc : TypeId × Value → H} {W : World} {fuel : Nat} {cl : List Value} {x : DataW H × List MemPlace} (h : DataW.trod enc Tryz.prog W 0 (fun _ => true) true fuel 63 cl = some x) (hl : Lim 63 x.1) (hn : cl.length = 47) : ∃ y : Mg, MsgIs (fun b => b < W.heap.size) W cl.toArray y := by
 obtain ⟨m0, y0, g0, l0⟩ := fld_at Tryz.underlying63 h hl 0 _ rfl 45 1 rfl 0 rfl (by kernel_rfl)
 obtain ⟨n0, e0, w0⟩ := int_at Tryz.underlying45 g0
 obtain ⟨k0, rfl, q0⟩ := u8_of w0
 obtain ⟨m1, y1, g1, l1⟩ := fld_at Tryz.underlying63 h hl 1 _ rfl 25 1 rfl 1 rfl (by kernel_rfl)
 obtain ⟨x1, w1⟩ := reads_num _ _ _ _ _ _ g1 l1 (len_in (by omega))
 obtain ⟨m2, y2, g2, l2⟩ := fld_at Tryz.underlying63 h hl 2 _ rfl 47 5 rfl 2 rfl (by kernel_rfl)
 have n2 : ((cl.drop 2).take 5).length = 5 := len_in (by omega)
 obtain ⟨ma, ya, ga, la⟩ := fld_at Tryz.underlying47 g2 l2 0 _ rfl 27 2 rfl 0 rfl (by kernel_rfl)
 obtain ⟨xa, wa⟩ := reads_vrs _ _ _ _ _ _ ga la (len_in (by omega))
 obtain ⟨mb, yb, gb, lb⟩ := fld_at Tryz.underlying47 g2 l2 1 _ rfl 3 1 rfl 2 rfl (by kernel_rfl)
 obtain ⟨xb, wb⟩ := reads_int _ _ _ _ _ _ gb lb (len_in (by omega))
 obtain ⟨mc, yc, gc, lc⟩ := fld_at Tryz.underlying47 g2 l2 2 _ rfl 3 1 rfl 3 rfl (by kernel_rfl)
 obtain ⟨xc, wc⟩ := reads_int _ _ _ _ _ _ gc lc (len_in (by omega))
 obtain ⟨md, yd, gd, ld⟩ := fld_at Tryz.underlying47 g2 l2 3 _ rfl 3 1 rfl 4 rfl (by kernel_rfl)
 obtain ⟨xd, wd⟩ := reads_int _ _ _ _ _ _ gd ld (len_in (by omega))
 obtain ⟨m3, y3, g3, l3⟩ := fld_at Tryz.underlying63 h hl 3 _ rfl 54 11 rfl 7 rfl (by kernel_rfl)
 obtain ⟨x3, w3⟩ := reads_bnd _ _ _ _ _ _ g3 l3 (len_in (by omega))
 obtain ⟨m4, y4, g4, l4⟩ := fld_at Tryz.underlying63 h hl 4 _ rfl 55 1 rfl 18 rfl (by kernel_rfl)
 obtain ⟨x4, w4⟩ := sl35 _ _ _ _ _ _ g4 l4 (len_in (by omega))
 obtain ⟨m5, y5, g5, l5⟩ := fld_at Tryz.underlying63 h hl 5 _ rfl 60 17 rfl 19 rfl (by kernel_rfl)
 obtain ⟨x5, w5⟩ := reads_frg _ _ _ _ _ _ g5 l5 (len_in (by omega))
 obtain ⟨m6, y6, g6, l6⟩ := fld_at Tryz.underlying63 h hl 6 _ rfl 49 1 rfl 36 rfl (by kernel_rfl)
 obtain ⟨x6, w6⟩ := reads_ints _ _ _ _ _ _ g6 l6 (len_in (by omega))
 obtain ⟨m7, y7, g7, l7⟩ := fld_at Tryz.underlying63 h hl 7 _ rfl 25 1 rfl 37 rfl (by kernel_rfl)
 obtain ⟨x7, w7⟩ := reads_num _ _ _ _ _ _ g7 l7 (len_in (by omega))
 obtain ⟨m8, y8, g8, l8⟩ := fld_at Tryz.underlying63 h hl 8 _ rfl 4 1 rfl 38 rfl (by kernel_rfl)
 obtain ⟨x8, w8⟩ := reads_boo _ _ _ _ _ _ g8 l8 (len_in (by omega))
 obtain ⟨m9, y9, g9, l9⟩ := fld_at Tryz.underlying63 h hl 9 _ rfl 42 1 rfl 39 rfl (by kernel_rfl)
 obtain ⟨x9, w9⟩ := sl43 _ _ _ _ _ _ g9 l9 (len_in (by omega))
 obtain ⟨m10, y10, g10, l10⟩ := fld_at Tryz.underlying63 h hl 10 _ rfl 44 6 rfl 40 rfl (by kernel_rfl)
 have n10 : ((cl.drop 40).take 6).length = 6 := len_in (by omega)
 obtain ⟨me, ye, ge, le⟩ := fld_at Tryz.underlying44 g10 l10 0 _ rfl 9 1 rfl 0 rfl (by kernel_rfl)
 obtain ⟨xe, ee, we⟩ := reads_txt _ _ _ _ _ _ ge le (len_in (by omega))
 obtain ⟨mf, yf, gf, lf⟩ := fld_at Tryz.underlying44 g10 l10 1 _ rfl 40 2 rfl 1 rfl (by kernel_rfl)
 have nf : ((((cl.drop 40).take 6).drop 1).take 2).length = 2 := len_in (by omega)
 obtain ⟨mg, yg, gg, lg⟩ := fld_at Tryz.underlying40 gf lf 0 _ rfl 25 1 rfl 0 rfl (by kernel_rfl)
 obtain ⟨xg, eg, wg⟩ := reads_num _ _ _ _ _ _ gg lg (len_in (by omega))
 obtain ⟨mh, yh, gh, lh⟩ := fld_at Tryz.underlying40 gf lf 1 _ rfl 25 1 rfl 1 rfl (by kernel_rfl)
 obtain ⟨xh, eh, wh⟩ := reads_num _ _ _ _ _ _ gh lh (len_in (by omega))
 obtain ⟨mi, yi, gi, li⟩ := fld_at Tryz.underlying44 g10 l10 2 _ rfl 3 1 rfl 3 rfl (by kernel_rfl)
 obtain ⟨xi, ei, wi⟩ := reads_int _ _ _ _ _ _ gi li (len_in (by omega))
 obtain ⟨mj, yj, gj, lj⟩ := fld_at Tryz.underlying44 g10 l10 3 _ rfl 41 1 rfl 4 rfl (by kernel_rfl)
 obtain ⟨xj, vj, ej, wj⟩ := sl44 _ _ _ _ _ _ gj lj (len_in (by omega))
 obtain ⟨mk, yk, gk, lk⟩ := fld_at Tryz.underlying44 g10 l10 4 _ rfl 42 1 rfl 5 rfl (by kernel_rfl)
 obtain ⟨xk, wk⟩ := sl43 _ _ _ _ _ _ gk lk (len_in (by omega))
 obtain ⟨m11, y11, g11, l11⟩ := fld_at Tryz.underlying63 h hl 11 _ rfl 61 1 rfl 46 rfl (by kernel_rfl)
 obtain ⟨x11, w11⟩ := sl47 _ _ _ _ _ _ g11 l11 (len_in (by omega))
 have hfh : (cl.drop 40).take 5 = [.string xe, .int .u64 (xg : Int), .int .u64 (xh : Int), .int .i64 xi, vj] := list_ext (by rw [len_in (by omega)]; rfl) (fun j v hj => by
  have hjl : j < 5 := (List.getElem?_eq_some_iff.1 hj).1
  rw [List.getElem?_take_of_lt hjl, List.getElem?_drop]
  match j, hjl with
  | 0, _ => cases hj; exact in_of (one_of ee)
  | 1, _ => cases hj; exact in_of (in_of (one_of eg))
  | 2, _ => cases hj; exact in_of (in_of (one_of eh))
  | 3, _ => cases hj; exact in_of (one_of ei)
  | 4, _ => cases hj; exact in_of (one_of ej))
 rw [dt (a := 2) (n := 5) (b := 0) (m := 2) (by omega)] at wa
 rw [dt (a := 2) (n := 5) (b := 2) (m := 1) (by omega)] at wb
 rw [dt (a := 2) (n := 5) (b := 3) (m := 1) (by omega)] at wc
 rw [dt (a := 2) (n := 5) (b := 4) (m := 1) (by omega)] at wd
 rw [dt (a := 40) (n := 6) (b := 5) (m := 1) (by omega)] at wk
 have k0c := one_of e0
 refine ⟨⟨k0, x1, ⟨xa.b, xa.l, xb, xc, xd⟩, x3, x4, x5, x6, x7, x8, x9, ⟨xe, ⟨xg, xh⟩, xi, xj, xk⟩, x11⟩, ?_⟩
 exact {
  size := by simpa using hn
  kc := by simpa using k0c
  kl := q0
  bt := gi_of _ (len_in (by omega)) rfl w1
  qr := gi_of _ (len_in (by omega)) rfl wa
  at_ := gi_of _ (len_in (by omega)) rfl wb
  fr := gi_of _ (len_in (by omega)) rfl wc
  tq := gi_of _ (len_in (by omega)) rfl wd
  bd := gi_of _ (len_in (by omega)) rfl w3
  ct := gi_of _ (len_in (by omega)) rfl w4
  fg := gi_of _ (len_in (by omega)) rfl w5
  nd := gi_of _ (len_in (by omega)) rfl w6
  sq := gi_of _ (len_in (by omega)) rfl w7
  ls := gi_of _ (len_in (by omega)) rfl w8
  rw_ := gi_of _ (len_in (by omega)) rfl w9
  fh := gi_of _ rfl hfh ⟨vj, rfl, we, ⟨wg, wh⟩, wi, wj⟩
  fw := gi_of _ (len_in (by omega)) rfl wk
  cm := gi_of _ (len_in (by omega)) rfl w11 }
end Go.Proofs.YtajomnfeicfdlaaGreatDoor
