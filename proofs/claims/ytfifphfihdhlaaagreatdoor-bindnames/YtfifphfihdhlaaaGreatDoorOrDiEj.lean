/- A query as an argument: how it is read. -/
import Derived.Test.YtfifphfihdhlaaaGreatDoorQxQy
import Derived.ProofKit
import Derived.OpenShut
import Derived.Lib.SmallJoins
import Derived.Deep.Slices
import Derived.SizedLaws
import Derived.Test.YtfifphfihdhlaaaGreatDoorCeCfCg
set_option maxRecDepth 100000
set_option maxHeartbeats 32000000
namespace Go.Proofs.YtfifphfihdhlaaaGreatDoor.Ag
open Tryz
open Go.ChangeShapes Go.WideShapes Go.ChangeAt Go.RowKit Go.Joins Go.Deep
open Go.ChangeMaps (open_string shut_string)
set_option linter.unusedVariables false
set_option linter.unusedSimpArgs false
def Lim {H : Type} (t : TypeId) (d : DataW H) : Prop := ∀ n ∈ d.weights prog t, n ≤ reachBytes
def ReadsAs {α : Type} (rel : Rel α) (t sz : Nat) : Prop := ∀ (H : Type) (enc : TypeId × Value → H) (W : World) (fuel : Nat) (cs : List Value) (x : DataW H × List MemPlace), DataW.trod enc prog W 0 (fun _ => true) true fuel t cs = some x → Lim t x.1 → cs.length = sz → ∃ y, rel (fun b => b < W.heap.size) W cs y
theorem rb : reachBytes = 140737488351232 := rfl
theorem weights_all {H : Type} {P : Program} {e : TypeId} : ∀ {ds : List (DataW H)} {d : DataW H}, d ∈ ds → ∀ n ∈ d.weights P e, n ∈ DataW.weightsAll P e ds
 | d0 :: ds, d, hd, n, hn => by
  simp only [DataW.weightsAll, List.mem_append]
  rcases List.mem_cons.1 hd with rfl | hd
  · exact .inl hn
  · exact .inr (weights_all hd n hn)
theorem plain_addr {W : World} {a : Addr} {v : Value} (h : W.cell? (a.add 0) = some v) : a = ⟨a.block, a.off, none⟩ ∧ a.block < W.heap.size := by
 have hs := World.cell?_spot h
 obtain ⟨b, o, sp⟩ := a
 simp [Addr.add] at hs
 subst hs
 refine ⟨rfl, ?_⟩
 by_cases hb : b < W.heap.size
 · exact hb
 · have : W.heap[b]? = none := Array.getElem?_eq_none (by omega)
   simp [World.cell?, Addr.add, this] at h
theorem reads_list {α : Type} {rel : Rel α} {t e sz bts : Nat} (hu : prog.underlying t = some (.slice e)) (hc : prog.cellsOf e = sz) (hby : prog.bytesOf e = bts) (hsz : 0 < sz) (hr : ReadsAs rel e sz)
 {H : Type} {enc : TypeId × Value → H} {W : World} {fuel : Nat} {v : Value} {x : DataW H × List MemPlace} (h : DataW.trod enc prog W 0 (fun _ => true) true fuel t [v] = some x) (hl : Lim t x.1) : ∃ xs : List α, ListIs rel sz bts (fun b => b < W.heap.size) W v xs := by
 rcases open_slice hu h with ⟨hcs, hx⟩ | ⟨a, len, cap, m, n, D, Pl, hcs, hb, hle, hm, hmm, hx, hel⟩
 · simp only [List.cons.injEq, and_true] at hcs
   subst hcs
   exact ⟨[], none, 0, rfl, by simp, fun h => absurd h (by simp)⟩
 · simp only [List.cons.injEq, and_true] at hcs
   subst hcs
   simp only [if_true] at hmm
   subst hmm
   rw [hc] at hel
   subst hx
   have hbytes : len * bts ≤ 140737488355328 := by
    have := hl ((((List.range len).map D).length + ((List.range (m - len)).map fun j => D (len + j)).length) * bts) (by simp [DataW.weights, hu, hby])
    simp only [List.length_map, List.length_range] at this
    have e1 : len * bts ≤ (len + (m - len)) * bts := Nat.mul_le_mul_right _ (by omega)
    have := rb
    omega
   have each : ∀ i, i < len → ∃ (q : List Value × α), q.1.length = sz ∧ (∀ j u, q.1[j]? = some u → W.cell? ((a.add (i * sz)).add j) = some u) ∧ rel (fun b => b < W.heap.size) W q.1 q.2 := by
    intro i hi
    obtain ⟨cs, g1, g2⟩ := hel i (by omega)
    obtain ⟨_, hlen, hcell⟩ := World.cells?_some g1
    obtain ⟨y, hy⟩ := hr H enc W n cs (D i, Pl i) g2 (fun k hk => hl k (by
     simp only [DataW.weights, hu, List.mem_cons, List.mem_append]
     exact .inr (.inl (weights_all (List.mem_map.2 ⟨i, by simpa using hi, rfl⟩) k hk)))) hlen
    refine ⟨(cs, y), hlen, fun j u hj => ?_, hy⟩
    have hjl : j < cs.length := (List.getElem?_eq_some_iff.1 hj).1
    rw [hcell j (by omega)]
    exact hj
   by_cases h0 : len = 0
   · subst h0
     exact ⟨[], some a, m, by simp, by simp, fun h => by simp at h⟩
   · have each0 := each 0 (by omega)
     haveI : Inhabited (List Value × α) := ⟨each0.choose⟩
     obtain ⟨X, hX⟩ := choose_lt each
     obtain ⟨z1, z2, _⟩ := hX 0 (by omega)
     obtain ⟨u0, hu0⟩ : ∃ u, (X 0).1[0]? = some u := ⟨_, List.getElem?_eq_getElem (by omega)⟩
     have ha := z2 0 u0 hu0
     rw [Nat.zero_mul, add_add, Nat.add_zero] at ha
     obtain ⟨hp, hbl⟩ := plain_addr ha
     refine ⟨(List.range len).map fun i => (X i).2, some a, m, by simp, ⟨by simpa using hbytes, by simp; omega⟩, fun _ => ⟨a.block, a.off, by rw [← hp], hbl, fun j hj => ?_⟩⟩
     simp at hj
     obtain ⟨k1, k2, k3⟩ := hX j hj
     refine ⟨(X j).1, k1, fun i u hi => ?_, by simpa using k3⟩
     have := k2 i u hi
     rw [add_add, hp, add_plain] at this
     rw [← Nat.add_assoc] at this
     exact this
theorem fld_at {H : Type} {enc : TypeId × Value → H} {W : World} {fuel t : Nat} {cs : List Value} {x : DataW H × List MemPlace} {fs : Array Field} (ht : prog.underlying t = some (.struct fs)) (h : DataW.trod enc prog W 0 (fun _ => true) true fuel t cs = some x) (hl : Lim t x.1) (i : Nat) (f : Field) (hf : fs[i]? = some f) (e n : Nat) (he : f.type = e) (o : Nat) (ho : f.offset = o) (hn : prog.cellsOf e = n) :
 ∃ m y, DataW.trod enc prog W 0 (fun _ => true) true m e ((cs.drop o).take n) = some y ∧ Lim e y.1 := by
 obtain ⟨xs, m, _, rfl, _, hlen, hall⟩ := DataW.trod_struct ht h
 subst he ho hn
 have h1 := hall i f hf
 have hi : i < xs.length := by rw [hlen]; exact (gsi hf).1
 rw [List.getElem?_eq_getElem hi] at h1
 refine ⟨m, xs[i], h1, fun k hk => hl k ?_⟩
 simp only [DataW.weights, ht]
 exact DataW.weights_mem_each (j := i) (by rw [List.getElem?_map, Array.getElem?_toList, hf]; rfl) (by rw [List.getElem?_map, List.getElem?_eq_getElem hi]; rfl) k hk
theorem int_at {H : Type} {enc : TypeId × Value → H} {W : World} {fuel t : Nat} {k : IntKind} {cs : List Value} {x : DataW H × List MemPlace} (hu : prog.underlying t = some (.int k)) (h : DataW.trod enc prog W 0 (fun _ => true) true fuel t cs = some x) : ∃ n, cs = [.int k n] ∧ (Lit.int k n).wf = true := by
 obtain ⟨n, e, _, w⟩ := DataW.trod_int hu h
 exact ⟨n, e, w⟩
theorem text_at {H : Type} {enc : TypeId × Value → H} {W : World} {fuel t : Nat} {cs : List Value} {x : DataW H × List MemPlace} (hu : prog.underlying t = some .string) (h : DataW.trod enc prog W 0 (fun _ => true) true fuel t cs = some x) (hl : Lim t x.1) : ∃ s : ByteArray, cs = [.string s] ∧ s.size ≤ 140737488351232 := by
 obtain ⟨s, e, hx, _⟩ := DataW.trod_string hu h
 refine ⟨s, e, ?_⟩
 have := hl s.data.toList.length (by rw [hx]; simp [DataW.weights])
 have h2 : s.data.toList.length = s.size := by simp
 have := rb
 omega
theorem one_of {cs : List Value} {o n : Nat} {v : Value} (h : (cs.drop o).take n = [v]) : cs[o]? = some v := by
 have h0 : ((cs.drop o).take n)[0]? = some v := by rw [h]; rfl
 have hn : 0 < n := by
  cases n with
  | zero => simp at h
  | succ n => omega
 rw [List.getElem?_take_of_lt hn, List.getElem?_drop] at h0
 simpa using h0
theorem u8_of {n : Int} (h : (Lit.int .u8 n).wf = true) : ∃ k : Nat, n = (k : Int) ∧ k < 256 := by
 have := bounds_u8 h
 exact ⟨n.toNat, by omega, by omega⟩
theorem i64_of {n : Int} (h : (Lit.int .i64 n).wf = true) : I64 n := by
 have := bounds_i64 h
 exact ⟨by omega, by omega⟩
theorem one_ex {cs : List Value} {o : Nat} (h : o < cs.length) : ∃ v, (cs.drop o).take 1 = [v] := by
 cases hd : cs.drop o with
 | nil => have := congrArg List.length hd; simp at this; omega
 | cons a l => exact ⟨a, by simp⟩
theorem len_in {cs : List Value} {o n : Nat} (h : o + n ≤ cs.length) : ((cs.drop o).take n).length = n := by
 rw [List.length_take, List.length_drop]; omega
theorem list_ext {l m : List Value} (hl : l.length = m.length) (h : ∀ (j : Nat) (v : Value), m[j]? = some v → l[j]? = some v) : l = m := by
 apply List.ext_getElem? 
 intro j
 by_cases hj : j < m.length
 · rw [List.getElem?_eq_getElem hj]; exact h j _ (List.getElem?_eq_getElem hj)
 · rw [List.getElem?_eq_none (by omega), List.getElem?_eq_none (by omega)]
theorem reads_slice {α : Type} {rel : Rel α} {t e sz bts : Nat} (hu : prog.underlying t = some (.slice e)) (hc : prog.cellsOf e = sz) (hby : prog.bytesOf e = bts) (hsz : 0 < sz) (hr : ReadsAs rel e sz) : ReadsAs (fun K W cs (x : List α) => ∃ v, cs = [v] ∧ ListIs rel sz bts K W v x) t 1 := fun H enc W fuel cs x h hl hn => by
 match cs, hn with
 | [v], _ =>
  obtain ⟨xs, hx⟩ := reads_list hu hc hby hsz hr h hl
  exact ⟨xs, v, rfl, hx⟩
theorem size_of (s : ByteArray) : s.data.toList.length = s.size := by simp
theorem reads_stp : ReadsAs rStpW 53 3 := fun H enc W fuel cs x h hl hn => by
 obtain ⟨m0, y0, g0, l0⟩ := fld_at underlying53 h hl 0 _ rfl 51 1 rfl 0 rfl (by kernel_rfl)
 obtain ⟨n0, e0, w0⟩ := int_at underlying51 g0
 obtain ⟨k0, rfl, q0⟩ := u8_of w0
 have c0 := (one_of e0)
 obtain ⟨m1, y1, g1, l1⟩ := fld_at underlying53 h hl 1 _ rfl 9 1 rfl 1 rfl (by kernel_rfl)
 obtain ⟨s1, e1, w1⟩ := text_at underlying9 g1 l1
 have c1 := (one_of e1)
 obtain ⟨m2, y2, g2, l2⟩ := fld_at underlying53 h hl 2 _ rfl 2 1 rfl 2 rfl (by kernel_rfl)
 obtain ⟨n2, e2, w2⟩ := int_at underlying2 g2
 have c2 := (one_of e2)
 have hcs : cs = [.int .u8 (k0 : Int), .string s1, .int .i64 (n2 : Int)] := list_ext (by rw [hn]; rfl) (fun j v hj => by
  have hjl : j < 3 := (List.getElem?_eq_some_iff.1 hj).1
  match j, hjl with
  | 0, _ => cases hj; exact c0
  | 1, _ => cases hj; exact c1
  | 2, _ => cases hj; exact c2
  )
 exact ⟨⟨k0, s1.data.toList, n2⟩, hcs, q0, i64_of w2, by show s1.data.toList.length ≤ _; rw [size_of]; omega⟩
theorem sl24 : ReadsAs (fun K W cs x => ∃ v, cs = [v] ∧ ListIs rStpW 3 32 K W v x) 23 1 := reads_slice underlying23 (by kernel_rfl) (by kernel_rfl) (by omega) reads_stp
theorem reads_itm : ReadsAs rItmW 42 2 := fun H enc W fuel cs x h hl hn => by
 obtain ⟨m0, y0, g0, l0⟩ := fld_at underlying42 h hl 0 _ rfl 40 1 rfl 0 rfl (by kernel_rfl)
 obtain ⟨n0, e0, w0⟩ := int_at underlying40 g0
 obtain ⟨k0, rfl, q0⟩ := u8_of w0
 have c0 := (one_of e0)
 obtain ⟨m1, y1, g1, l1⟩ := fld_at underlying42 h hl 1 _ rfl 23 1 rfl 1 rfl (by kernel_rfl)
 obtain ⟨z1, v1, e1, w1⟩ := sl24 _ _ _ _ _ _ g1 l1 (len_in (by omega))
 have c1 := (one_of e1)
 have hcs : cs = [.int .u8 (k0 : Int), v1] := list_ext (by rw [hn]; rfl) (fun j v hj => by
  have hjl : j < 2 := (List.getElem?_eq_some_iff.1 hj).1
  match j, hjl with
  | 0, _ => cases hj; exact c0
  | 1, _ => cases hj; exact c1
  )
 exact ⟨⟨k0, z1⟩, v1, hcs, w1, q0⟩
theorem sl23 : ReadsAs (fun K W cs x => ∃ v, cs = [v] ∧ ListIs rItmW 2 32 K W v x) 22 1 := reads_slice underlying22 (by kernel_rfl) (by kernel_rfl) (by omega) reads_itm
theorem reads_str : ReadsAs rStrW 9 1 := fun H enc W fuel cs x h hl hn => by
 obtain ⟨s, e, w⟩ := text_at underlying9 h hl
 exact ⟨s.data.toList, e, by show s.data.toList.length ≤ _; rw [size_of]; omega⟩
theorem sl25 : ReadsAs (fun K W cs x => ∃ v, cs = [v] ∧ ListIs rStrW 1 16 K W v x) 24 1 := reads_slice underlying24 (by kernel_rfl) (by kernel_rfl) (by omega) reads_str
theorem reads_qry {H : Type} {enc : TypeId × Value → H} {W : World} {fuel : Nat} {cs : List Value} {x : DataW H × List MemPlace} (h : DataW.trod enc prog W 0 (fun _ => true) true fuel 26 cs = some x) (hl : Lim 26 x.1) (hn : cs.length = 7) : ∃ (q : Qry) (pi pw pg : Option Addr) (ci cw cg : Nat), cs = (q.cl (.slice pi q.i.length ci) (.slice pw q.w.length cw) (.slice pg q.g.length cg)).toList ∧ QLsW (fun b => b < W.heap.size) W pi pw pg ci cw cg q := by
 obtain ⟨m0, y0, g0, l0⟩ := fld_at underlying26 h hl 0 _ rfl 22 1 rfl 0 rfl (by kernel_rfl)
 obtain ⟨z0, v0, e0, w0⟩ := sl23 _ _ _ _ _ _ g0 l0 (len_in (by omega))
 obtain ⟨m1, y1, g1, l1⟩ := fld_at underlying26 h hl 1 _ rfl 9 1 rfl 1 rfl (by kernel_rfl)
 obtain ⟨s1, e1, w1⟩ := text_at underlying9 g1 l1
 obtain ⟨m2, y2, g2, l2⟩ := fld_at underlying26 h hl 2 _ rfl 9 1 rfl 2 rfl (by kernel_rfl)
 obtain ⟨s2, e2, w2⟩ := text_at underlying9 g2 l2
 obtain ⟨m3, y3, g3, l3⟩ := fld_at underlying26 h hl 3 _ rfl 9 1 rfl 3 rfl (by kernel_rfl)
 obtain ⟨s3, e3, w3⟩ := text_at underlying9 g3 l3
 obtain ⟨m4, y4, g4, l4⟩ := fld_at underlying26 h hl 4 _ rfl 9 1 rfl 4 rfl (by kernel_rfl)
 obtain ⟨s4, e4, w4⟩ := text_at underlying9 g4 l4
 obtain ⟨m5, y5, g5, l5⟩ := fld_at underlying26 h hl 5 _ rfl 23 1 rfl 5 rfl (by kernel_rfl)
 obtain ⟨z5, v5, e5, w5⟩ := sl24 _ _ _ _ _ _ g5 l5 (len_in (by omega))
 obtain ⟨m6, y6, g6, l6⟩ := fld_at underlying26 h hl 6 _ rfl 24 1 rfl 6 rfl (by kernel_rfl)
 obtain ⟨z6, v6, e6, w6⟩ := sl25 _ _ _ _ _ _ g6 l6 (len_in (by omega))
 obtain ⟨pi, ci, rfl, i1, i2⟩ := w0
 obtain ⟨pw, cw, rfl, j1, j2⟩ := w5
 obtain ⟨pg, cg, rfl, k1, k2⟩ := w6
 have c0 := one_of e0
 have c1 := one_of e1
 have c2 := one_of e2
 have c3 := one_of e3
 have c4 := one_of e4
 have c5 := one_of e5
 have c6 := one_of e6
 refine ⟨⟨z0, s1.data.toList, s2.data.toList, s3.data.toList, s4.data.toList, z5, z6⟩, pi, pw, pg, ci, cw, cg, ?_, ⟨⟨_, _, rfl, i1, i2⟩, ⟨_, _, rfl, j1, j2⟩, ⟨_, _, rfl, k1, k2⟩, ?_, ?_, ?_, ?_⟩⟩
 · refine list_ext (by rw [hn]; rfl) (fun j v hj => ?_)
   have hjl : j < 7 := (List.getElem?_eq_some_iff.1 hj).1
   match j, hjl with
   | 0, _ => cases hj; exact c0
   | 1, _ => cases hj; exact c1
   | 2, _ => cases hj; exact c2
   | 3, _ => cases hj; exact c3
   | 4, _ => cases hj; exact c4
   | 5, _ => cases hj; exact c5
   | 6, _ => cases hj; exact c6
 · show s1.data.toList.length ≤ _; rw [size_of]; omega
 · show s2.data.toList.length ≤ _; rw [size_of]; omega
 · show s3.data.toList.length ≤ _; rw [size_of]; omega
 · show s4.data.toList.length ≤ _; rw [size_of]; omega
open Go.ChangeShapes Go.WideShapes Go.ChangeAt Go.RowKit Go.Joins Go.Deep
open Go.ChangeMaps (open_string shut_string)
theorem reads_clm : ReadsAs Bd.rClm 50 2 := fun H enc W fuel cs x h hl hn => by
 obtain ⟨m0, y0, g0, l0⟩ := fld_at underlying50 h hl 0 _ rfl 9 1 rfl 0 rfl (by kernel_rfl)
 obtain ⟨s0, e0, w0⟩ := text_at underlying9 g0 l0
 have c0 := (one_of e0)
 obtain ⟨m1, y1, g1, l1⟩ := fld_at underlying50 h hl 1 _ rfl 43 1 rfl 1 rfl (by kernel_rfl)
 obtain ⟨n1, e1, w1⟩ := int_at underlying43 g1
 obtain ⟨k1, rfl, q1⟩ := u8_of w1
 have c1 := (one_of e1)
 have hcs : cs = [.string s0, .int .u8 (k1 : Int)] := list_ext (by rw [hn]; rfl) (fun j v hj => by
  have hjl : j < 2 := (List.getElem?_eq_some_iff.1 hj).1
  match j, hjl with
  | 0, _ => cases hj; exact c0
  | 1, _ => cases hj; exact c1
  )
 exact ⟨⟨s0.data.toList, k1⟩, hcs, by show s0.data.toList.length ≤ _; rw [size_of]; omega, q1⟩
theorem sl38 : ReadsAs (fun K W cs x => ∃ v, cs = [v] ∧ ListIs Bd.rClm 2 24 K W v x) 38 1 := reads_slice underlying38 (by kernel_rfl) (by kernel_rfl) (by omega) reads_clm
theorem reads_tab : ReadsAs Bd.rTab 56 3 := fun H enc W fuel cs x h hl hn => by
 obtain ⟨m0, y0, g0, l0⟩ := fld_at underlying56 h hl 0 _ rfl 9 1 rfl 0 rfl (by kernel_rfl)
 obtain ⟨s0, e0, w0⟩ := text_at underlying9 g0 l0
 have c0 := (one_of e0)
 obtain ⟨m1, y1, g1, l1⟩ := fld_at underlying56 h hl 1 _ rfl 38 1 rfl 1 rfl (by kernel_rfl)
 obtain ⟨z1, v1, e1, w1⟩ := sl38 _ _ _ _ _ _ g1 l1 (len_in (by omega))
 have c1 := (one_of e1)
 obtain ⟨m2, y2, g2, l2⟩ := fld_at underlying56 h hl 2 _ rfl 54 1 rfl 2 rfl (by kernel_rfl)
 obtain ⟨v2, e2⟩ : ∃ v, (cs.drop 2).take 1 = [v] := one_ex (by omega)
 rw [e2] at g2
 have hsl : ∃ pr nr cr, v2 = .slice pr nr cr := by
  rcases open_slice underlying54 g2 with ⟨hcs, _⟩ | ⟨a, len, cap, m, n, D, Pl, hcs, _⟩
  · simp only [List.cons.injEq, and_true] at hcs; exact ⟨_, _, _, hcs⟩
  · simp only [List.cons.injEq, and_true] at hcs; exact ⟨_, _, _, hcs⟩
 obtain ⟨pr, nr, cr, rfl⟩ := hsl
 have c2 := (one_of e2)
 have hcs : cs = [.string s0, v1, .slice pr nr cr] := list_ext (by rw [hn]; rfl) (fun j v hj => by
  have hjl : j < 3 := (List.getElem?_eq_some_iff.1 hj).1
  match j, hjl with
  | 0, _ => cases hj; exact c0
  | 1, _ => cases hj; exact c1
  | 2, _ => cases hj; exact c2
  )
 exact ⟨⟨s0.data.toList, z1⟩, v1, pr, nr, cr, hcs, w1, by show s0.data.toList.length ≤ _; rw [size_of]; omega⟩
open Go.ChangeShapes Go.WideShapes Go.ChangeAt Go.RowKit Go.Joins Go.Deep
open Go.ChangeMaps (open_string shut_string)
theorem reads_listB {α : Type} {rel : Rel α} {t e sz bts : Nat} (hu : prog.underlying t = some (.slice e)) (hc : prog.cellsOf e = sz) (hby : prog.bytesOf e = bts) (hsz : 0 < sz) (hr : ReadsAs rel e sz)
 {H : Type} {enc : TypeId × Value → H} {W : World} {fuel : Nat} {v : Value} {x : DataW H × List MemPlace} (h : DataW.trod enc prog W 0 (fun _ => true) true fuel t [v] = some x) (hl : Lim t x.1) : ∃ xs : List α, ListIs rel sz bts (fun b => b < W.heap.size) W v xs ∧ xs.length * bts ≤ 140737488351232 := by
 rcases open_slice hu h with ⟨hcs, hx⟩ | ⟨a, len, cap, m, n, D, Pl, hcs, hb, hle, hm, hmm, hx, hel⟩
 · simp only [List.cons.injEq, and_true] at hcs
   subst hcs
   exact ⟨[], ⟨none, 0, rfl, by simp, fun h => absurd h (by simp)⟩, by simp⟩
 · simp only [List.cons.injEq, and_true] at hcs
   subst hcs
   simp only [if_true] at hmm
   subst hmm
   rw [hc] at hel
   subst hx
   have hbytes : len * bts ≤ 140737488351232 := by
    have := hl ((((List.range len).map D).length + ((List.range (m - len)).map fun j => D (len + j)).length) * bts) (by simp [DataW.weights, hu, hby])
    simp only [List.length_map, List.length_range] at this
    have e1 : len * bts ≤ (len + (m - len)) * bts := Nat.mul_le_mul_right _ (by omega)
    have := rb
    omega
   have each : ∀ i, i < len → ∃ (q : List Value × α), q.1.length = sz ∧ (∀ j u, q.1[j]? = some u → W.cell? ((a.add (i * sz)).add j) = some u) ∧ rel (fun b => b < W.heap.size) W q.1 q.2 := by
    intro i hi
    obtain ⟨cs, g1, g2⟩ := hel i (by omega)
    obtain ⟨_, hlen, hcell⟩ := World.cells?_some g1
    obtain ⟨y, hy⟩ := hr H enc W n cs (D i, Pl i) g2 (fun k hk => hl k (by
     simp only [DataW.weights, hu, List.mem_cons, List.mem_append]
     exact .inr (.inl (weights_all (List.mem_map.2 ⟨i, by simpa using hi, rfl⟩) k hk)))) hlen
    refine ⟨(cs, y), hlen, fun j u hj => ?_, hy⟩
    have hjl : j < cs.length := (List.getElem?_eq_some_iff.1 hj).1
    rw [hcell j (by omega)]
    exact hj
   by_cases h0 : len = 0
   · subst h0
     exact ⟨[], ⟨some a, m, by simp, by simp, fun h => by simp at h⟩, by simp⟩
   · have each0 := each 0 (by omega)
     haveI : Inhabited (List Value × α) := ⟨each0.choose⟩
     obtain ⟨X, hX⟩ := choose_lt each
     obtain ⟨z1, z2, _⟩ := hX 0 (by omega)
     obtain ⟨u0, hu0⟩ : ∃ u, (X 0).1[0]? = some u := ⟨_, List.getElem?_eq_getElem (by omega)⟩
     have ha := z2 0 u0 hu0
     rw [Nat.zero_mul, add_add, Nat.add_zero] at ha
     obtain ⟨hp, hbl⟩ := plain_addr ha
     refine ⟨(List.range len).map fun i => (X i).2, ⟨some a, m, by simp, ⟨by simp; omega, by simp; omega⟩, fun _ => ⟨a.block, a.off, by rw [← hp], hbl, fun j hj => ?_⟩⟩, by simpa using hbytes⟩
     simp at hj
     obtain ⟨k1, k2, k3⟩ := hX j hj
     refine ⟨(X j).1, k1, fun i u hi => ?_, by simpa using k3⟩
     have := k2 i u hi
     rw [add_add, hp, add_plain] at this
     rw [← Nat.add_assoc] at this
     exact this
end Go.Proofs.YtfifphfihdhlaaaGreatDoor.Ag
