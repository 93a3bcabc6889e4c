/- A query as an argument: how it is read. -/
import Derived.Test.YtfifphfihdhlaaaGreatDoorQxQy
import Derived.ProofKit
import Derived.OpenShut
import Derived.Lib.SmallJoins
import Derived.Deep.Slices
import Derived.SizedLaws
import Derived.Test.YtfifphfihdhlaaaGreatDoorCeCfCg
namespace Go.Proofs.YtfifphfihdhlaaaGreatDoor.Ag
open Go.ChangeShapes Go.WideShapes Go.ChangeAt Go.RowKit Go.Joins Go.Deep
open Go.ChangeMaps (open_string shut_string)
set_option linter.unusedVariables false
set_option linter.unusedSimpArgs false
/-- How great a datum's parts are. -/
def Lim {H : Type} (t : TypeId) (d : DataW H) : Prop := ∀ n ∈ d.weights Tryz.prog t, n ≤ reachBytes
/-- The cells of a type are a part. -/
def ReadsAs {α : Type} (rel : Rel α) (t sz : Nat) : Prop := ∀ (H : Type) (enc : TypeId × Value → H) (W : World) (fuel : Nat) (cs : List Value) (x : DataW H × List MemPlace), DataW.trod enc Tryz.prog W 0 (fun _ => true) true fuel t cs = some x → Lim t x.1 → cs.length = sz → ∃ y, rel (fun b => b < W.heap.size) W cs y
theorem rb : reachBytes = 140737488351232 := rfl
theorem weights_all {H : Type} {P : Program} {e : TypeId} : ∀ {ds : List (DataW H)} {d : DataW H}, d ∈ ds → ∀ n ∈ d.weights P e, n ∈ DataW.weightsAll P e ds
 | d0 :: ds, d, hd, n, hn => by
  simp only [DataW.weightsAll, List.mem_append]
  rcases List.mem_cons.1 hd with rfl | hd
  · exact .inl hn
  · exact .inr (weights_all hd n hn)
theorem plain_addr {W : World} {a : Addr} {v : Value} (h : W.cell? (a.add 0) = some v) : a = ⟨a.block, a.off, none⟩ ∧ a.block < W.heap.size := by
 have hs := World.cell?_spot h
 obtain ⟨b, o, sp⟩ := a
 simp [Addr.add] at hs
 subst hs
 refine ⟨rfl, ?_⟩
 by_cases hb : b < W.heap.size
 · exact hb
 · have : W.heap[b]? = none := Array.getElem?_eq_none (by omega)
   simp [World.cell?, Addr.add, this] at h
set_option maxRecDepth 100000 in
/-- A list that is handed in. -/
theorem reads_list {α : Type} {rel : Rel α} {t e sz bts : Nat} (hu : Tryz.prog.underlying t = some (.slice e)) (hc : Tryz.prog.cellsOf e = sz) (hby : Tryz.prog.bytesOf e = bts) (hsz : 0 < sz) (hr : ReadsAs rel e sz)
 {H : Type} {enc : TypeId × Value → H} {W : World} {fuel : Nat} {v : Value} {x : DataW H × List MemPlace} (h : DataW.trod enc Tryz.prog W 0 (fun _ => true) true fuel t [v] = some x) (hl : Lim t x.1) : ∃ xs : List α, ListIs rel sz bts (fun b => b < W.heap.size) W v xs := by
 rcases open_slice hu h with ⟨hcs, hx⟩ | ⟨a, len, cap, m, n, D, Pl, hcs, hb, hle, hm, hmm, hx, hel⟩
 · simp only [List.cons.injEq, and_true] at hcs
   subst hcs
   exact ⟨[], none, 0, rfl, by simp, fun h => absurd h (by simp)⟩
 · simp only [List.cons.injEq, and_true] at hcs
   subst hcs
   simp only [if_true] at hmm
   subst hmm
   rw [hc] at hel
   subst hx
   have hbytes : len * bts ≤ 140737488355328 := by
    have := hl ((((List.range len).map D).length + ((List.range (m - len)).map fun j => D (len + j)).length) * bts) (by simp [DataW.weights, hu, hby])
    simp only [List.length_map, List.length_range] at this
    have e1 : len * bts ≤ (len + (m - len)) * bts := Nat.mul_le_mul_right _ (by omega)
    have := rb
    omega
   have each : ∀ i, i < len → ∃ (q : List Value × α), q.1.length = sz ∧ (∀ j u, q.1[j]? = some u → W.cell? ((a.add (i * sz)).add j) = some u) ∧ rel (fun b => b < W.heap.size) W q.1 q.2 := by
    intro i hi
    obtain ⟨cs, g1, g2⟩ := hel i (by omega)
    obtain ⟨_, hlen, hcell⟩ := World.cells?_some g1
    obtain ⟨y, hy⟩ := hr H enc W n cs (D i, Pl i) g2 (fun k hk => hl k (by
     simp only [DataW.weights, hu, List.mem_cons, List.mem_append]
     exact .inr (.inl (weights_all (List.mem_map.2 ⟨i, by simpa using hi, rfl⟩) k hk)))) hlen
    refine ⟨(cs, y), hlen, fun j u hj => ?_, hy⟩
    have hjl : j < cs.length := (List.getElem?_eq_some_iff.1 hj).1
    rw [hcell j (by omega)]
    exact hj
   by_cases h0 : len = 0
   · subst h0
     exact ⟨[], some a, m, by simp, by simp, fun h => by simp at h⟩
   · have each0 := each 0 (by omega)
     haveI : Inhabited (List Value × α) := ⟨each0.choose⟩
     obtain ⟨X, hX⟩ := choose_lt each
     obtain ⟨z1, z2, _⟩ := hX 0 (by omega)
     obtain ⟨u0, hu0⟩ : ∃ u, (X 0).1[0]? = some u := ⟨_, List.getElem?_eq_getElem (by omega)⟩
     have ha := z2 0 u0 hu0
     rw [Nat.zero_mul, add_add, Nat.add_zero] at ha
     obtain ⟨hp, hbl⟩ := plain_addr ha
     refine ⟨(List.range len).map fun i => (X i).2, some a, m, by simp, ⟨by simpa using hbytes, by simp; omega⟩, fun _ => ⟨a.block, a.off, by rw [← hp], hbl, fun j hj => ?_⟩⟩
     simp at hj
     obtain ⟨k1, k2, k3⟩ := hX j hj
     refine ⟨(X j).1, k1, fun i u hi => ?_, by simpa using k3⟩
     have := k2 i u hi
     rw [add_add, hp, add_plain] at this
     rw [← Nat.add_assoc] at this
     exact this
/-- A field of a struct. -/
theorem fld_at {H : Type} {enc : TypeId × Value → H} {W : World} {fuel t : Nat} {cs : List Value} {x : DataW H × List MemPlace} {fs : Array Field} (ht : Tryz.prog.underlying t = some (.struct fs)) (h : DataW.trod enc Tryz.prog W 0 (fun _ => true) true fuel t cs = some x) (hl : Lim t x.1) (i : Nat) (f : Field) (hf : fs[i]? = some f) (e n : Nat) (he : f.type = e) (o : Nat) (ho : f.offset = o) (hn : Tryz.prog.cellsOf e = n) :
 ∃ m y, DataW.trod enc Tryz.prog W 0 (fun _ => true) true m e ((cs.drop o).take n) = some y ∧ Lim e y.1 := by
 obtain ⟨xs, m, _, rfl, _, hlen, hall⟩ := DataW.trod_struct ht h
 subst he ho hn
 have h1 := hall i f hf
 have hi : i < xs.length := by rw [hlen]; exact (Array.getElem?_eq_some_iff.1 hf).1
 rw [List.getElem?_eq_getElem hi] at h1
 refine ⟨m, xs[i], h1, fun k hk => hl k ?_⟩
 simp only [DataW.weights, ht]
 exact DataW.weights_mem_each (j := i) (by rw [List.getElem?_map, Array.getElem?_toList, hf]; rfl) (by rw [List.getElem?_map, List.getElem?_eq_getElem hi]; rfl) k hk
theorem int_at {H : Type} {enc : TypeId × Value → H} {W : World} {fuel t : Nat} {k : IntKind} {cs : List Value} {x : DataW H × List MemPlace} (hu : Tryz.prog.underlying t = some (.int k)) (h : DataW.trod enc Tryz.prog W 0 (fun _ => true) true fuel t cs = some x) : ∃ n, cs = [.int k n] ∧ (Lit.int k n).wf = true := by
 obtain ⟨n, e, _, w⟩ := DataW.trod_int hu h
 exact ⟨n, e, w⟩
theorem text_at {H : Type} {enc : TypeId × Value → H} {W : World} {fuel t : Nat} {cs : List Value} {x : DataW H × List MemPlace} (hu : Tryz.prog.underlying t = some .string) (h : DataW.trod enc Tryz.prog W 0 (fun _ => true) true fuel t cs = some x) (hl : Lim t x.1) : ∃ s : ByteArray, cs = [.string s] ∧ s.size ≤ 140737488351232 := by
 obtain ⟨s, e, hx, _⟩ := DataW.trod_string hu h
 refine ⟨s, e, ?_⟩
 have := hl s.data.toList.length (by rw [hx]; simp [DataW.weights])
 have h2 : s.data.toList.length = s.size := by simp
 have := rb
 omega
theorem one_of {cs : List Value} {o n : Nat} {v : Value} (h : (cs.drop o).take n = [v]) : cs[o]? = some v := by
 have h0 : ((cs.drop o).take n)[0]? = some v := by rw [h]; rfl
 have hn : 0 < n := by
  cases n with
  | zero => simp at h
  | succ n => omega
 rw [List.getElem?_take_of_lt hn, List.getElem?_drop] at h0
 simpa using h0
theorem u8_of {n : Int} (h : (Lit.int .u8 n).wf = true) : ∃ k : Nat, n = (k : Int) ∧ k < 256 := by
 have := bounds_u8 h
 exact ⟨n.toNat, by omega, by omega⟩
theorem i64_of {n : Int} (h : (Lit.int .i64 n).wf = true) : I64 n := by
 have := bounds_i64 h
 exact ⟨by omega, by omega⟩
theorem list_ext {l m : List Value} (hl : l.length = m.length) (h : ∀ (j : Nat) (v : Value), m[j]? = some v → l[j]? = some v) : l = m := by
 apply List.ext_getElem? 
 intro j
 by_cases hj : j < m.length
 · rw [List.getElem?_eq_getElem hj]; exact h j _ (List.getElem?_eq_getElem hj)
 · rw [List.getElem?_eq_none (by omega), List.getElem?_eq_none (by omega)]
theorem size_of (s : ByteArray) : s.data.toList.length = s.size := by simp
theorem reads_stp : ReadsAs rStpW 53 3 := fun H enc W fuel cs x h hl hn => by
 obtain ⟨m0, y0, g0, l0⟩ := fld_at Tryz.underlying53 h hl 0 _ rfl 51 1 rfl 0 rfl (by kernel_rfl)
 obtain ⟨n0, e0, w0⟩ := int_at Tryz.underlying51 g0
 obtain ⟨k0, rfl, q0⟩ := u8_of w0
 have c0 := (one_of e0)
 obtain ⟨m1, y1, g1, l1⟩ := fld_at Tryz.underlying53 h hl 1 _ rfl 9 1 rfl 1 rfl (by kernel_rfl)
 obtain ⟨s1, e1, w1⟩ := text_at Tryz.underlying9 g1 l1
 have c1 := (one_of e1)
 obtain ⟨m2, y2, g2, l2⟩ := fld_at Tryz.underlying53 h hl 2 _ rfl 2 1 rfl 2 rfl (by kernel_rfl)
 obtain ⟨n2, e2, w2⟩ := int_at Tryz.underlying2 g2
 have c2 := (one_of e2)
 have hcs : cs = [.int .u8 (k0 : Int), .string s1, .int .i64 (n2 : Int)] := list_ext (by rw [hn]; rfl) (fun j v hj => by
  have hjl : j < 3 := (List.getElem?_eq_some_iff.1 hj).1
  match j, hjl with
  | 0, _ => cases hj; exact c0
  | 1, _ => cases hj; exact c1
  | 2, _ => cases hj; exact c2
  )
 exact ⟨⟨k0, s1.data.toList, n2⟩, hcs, q0, i64_of w2, by show s1.data.toList.length ≤ _; rw [size_of]; omega⟩
end Go.Proofs.YtfifphfihdhlaaaGreatDoor.Ag
/- Columns and tables as arguments: how they are read. -/
namespace Go.Proofs.YtfifphfihdhlaaaGreatDoor.Ag
open Go.ChangeShapes Go.WideShapes Go.ChangeAt Go.RowKit Go.Joins Go.Deep
open Go.ChangeMaps (open_string shut_string)
set_option linter.unusedVariables false
set_option linter.unusedSimpArgs false
theorem reads_clm : ReadsAs Bd.rClm 50 2 := fun H enc W fuel cs x h hl hn => by
 obtain ⟨m0, y0, g0, l0⟩ := fld_at Tryz.underlying50 h hl 0 _ rfl 9 1 rfl 0 rfl (by kernel_rfl)
 obtain ⟨s0, e0, w0⟩ := text_at Tryz.underlying9 g0 l0
 have c0 := (one_of e0)
 obtain ⟨m1, y1, g1, l1⟩ := fld_at Tryz.underlying50 h hl 1 _ rfl 43 1 rfl 1 rfl (by kernel_rfl)
 obtain ⟨n1, e1, w1⟩ := int_at Tryz.underlying43 g1
 obtain ⟨k1, rfl, q1⟩ := u8_of w1
 have c1 := (one_of e1)
 have hcs : cs = [.string s0, .int .u8 (k1 : Int)] := list_ext (by rw [hn]; rfl) (fun j v hj => by
  have hjl : j < 2 := (List.getElem?_eq_some_iff.1 hj).1
  match j, hjl with
  | 0, _ => cases hj; exact c0
  | 1, _ => cases hj; exact c1
  )
 exact ⟨⟨s0.data.toList, k1⟩, hcs, by show s0.data.toList.length ≤ _; rw [size_of]; omega, q1⟩
end Go.Proofs.YtfifphfihdhlaaaGreatDoor.Ag
