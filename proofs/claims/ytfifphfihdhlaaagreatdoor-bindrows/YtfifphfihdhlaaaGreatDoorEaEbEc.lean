/- Bound queries that are one: what the reference's Same answers. -/
import Derived.Test.YtfifphfihdhlaaaGreatDoorDe
import Derived.Test.YtfifphfihdhlaaaGreatDoorCaCb
import Derived.Test.YtfifphfihdhlaaaGreatDoorQbTk
set_option maxRecDepth 100000
set_option maxHeartbeats 32000000
namespace Go.Proofs.YtfifphfihdhlaaaGreatDoor.Bd
open Tryz
open Go.Shelf Go.RowKit Go.Lib Go.Sort
set_option linter.unusedVariables false
set_option linter.unusedSimpArgs false
attribute [local go_sem ↓] Go.wp_at_zero Go.wp_at_succ
theorem run_step_eqW (k n : Int) (t : ByteArray) (w : World) :
 (binOp .neq 53 (.agg #[.int .u8 k, .string t, .int .i64 n]) (.agg #[.int .u8 k, .string t, .int .i64 n])).run prog w = .ok (.bool false) w := by
 have h : (binOp .eql 53 (.agg #[.int .u8 k, .string t, .int .i64 n]) (.agg #[.int .u8 k, .string t, .int .i64 n])).run prog w = .ok (.bool true) w := by
  have hS : prog.underlying 53 = some (.struct (prog.fieldsOf 53)) := by kernel_rfl
  have hp : prog.stoodInHeld 53 = false := by kernel_rfl
  have u3 := underlying3; have a3 := Tryz.isAgg3; have z3 := Tryz.sizeOf3
  have u9 := underlying9; have a9 := Tryz.isAgg9; have z9 := Tryz.sizeOf9
  have u1 := underlying51; have a1 := Tryz.isAgg51; have z1 := Tryz.sizeOf51
  have u2 := underlying2; have a2 := Tryz.isAgg2; have z2 := Tryz.sizeOf2
  rw [run_eql_struct, show (10000 : Nat) = 9999 + 1 from rfl, run_equalIn_struct w 9999 53 _ _ hS hp]
  simp only [Program.fieldsOf, underlying53]
  go_simp
 simp only [binOp, Sem.run_bind] at h ⊢
 generalize (Op.equal 53 (.agg #[.int .u8 k, .string t, .int .i64 n]) (.agg #[.int .u8 k, .string t, .int .i64 n])).run prog w = r at h ⊢
 cases r <;> simp_all
theorem texts_eqW (va vb : Value) (xs : List (List UInt8)) (K L : Nat → Prop) (w : World) (h : ListIs rStrW 1 16 K w va xs) (h' : ListIs rStrW 1 16 L w vb xs) (hK : ∀ b, K b → b < w.heap.size) (hL : ∀ b, L b → b < w.heap.size) :
 Calls prog 25 #[va, vb] w fun e w' => e = .returned (.bool true) ∧ Below w.heap.size w w' := by
 obtain ⟨p, c, rfl, hby, hp⟩ := h
 obtain ⟨q, d, rfl, _, hq⟩ := h'
 have HP : Hid _ := hp
 have HQ : Hid _ := hq
 have t3 : ((xs.length : Int) != (xs.length : Int)) = false := by simp
 have HKK : Hid (∀ b, K b → b < w.heap.size) := hK
 have HLL : Hid (∀ b, L b → b < w.heap.size) := hL
 clear hp hq hK hL
 go_enter func25, ntmps25
 go_wp2_with fail
 go_loopg [13] xs.length (fun gf s30 wx => ∃ i : Nat, s30 = .int .i64 i ∧ i ≤ xs.length ∧ xs.length ≤ i + gf ∧ Hid (Below w.heap.size w wx))
 case atStart => exact ⟨0, rfl, by omega, by omega, Below.refl _ _⟩
 case round =>
  obtain ⟨i, rfl, hi1, hgf, HB⟩ := hrel
  by_cases hi : i < xs.length
  · obtain ⟨g', rfl⟩ : ∃ g', gk = g' + 1 := ⟨gk - 1, by omega⟩
    obtain ⟨b, o, rfl, hKb, hc⟩ := HP.out (by omega)
    obtain ⟨b', o', rfl, hLb, hc'⟩ := HQ.out (by omega)
    obtain ⟨cs, hcl, hcell, hrel1⟩ := hc i hi
    obtain ⟨ds, hdl, hdell, hrel2⟩ := hc' i hi
    obtain ⟨x, hx⟩ : ∃ x, xs[i] = x := ⟨_, rfl⟩
    rw [hx] at hrel1 hrel2
    have hcs := hrel1.1
    have hds := hrel2.1
    have hcell2 : ∀ j u, cs[j]? = some u → wr.cell? ⟨b, o + i * 1 + j, none⟩ = some u := fun j u hj => by rw [HB.out.cell (p := ⟨b, _, none⟩) (HKK.out _ hKb)]; exact hcell j u hj
    have hdell2 : ∀ j u, ds[j]? = some u → wr.cell? ⟨b', o' + i * 1 + j, none⟩ = some u := fun j u hj => by rw [HB.out.cell (p := ⟨b', _, none⟩) (HLL.out _ hLb)]; exact hdell j u hj
    rw [hcs] at hcell2
    rw [hds] at hdell2
    have c0 := hcell2 0 _ rfl
    have e0 := hdell2 0 _ rfl
    simp only [Nat.add_zero, Nat.mul_one] at c0 e0
    obtain ⟨S, hS⟩ : ∃ S : ByteArray, (⟨x.toArray⟩ : ByteArray) = S := ⟨_, rfl⟩
    rw [hS] at c0 e0
    clear hS
    have z0 : (0 : Int) ≤ (i : Int) := by omega
    have z1 : (i : Int) < (xs.length : Int) := by omega
    have hbw := HB.out
    clear hc hc' hcell hdell hcell2 hdell2 hrel1 hrel2 hx HB hcl hdl hKb hLb hcs hds
    go_wp2_with fail
    go_quiet (fail)
    go_wp2_with fail
    go_roundg g'
    case measure => omega
    case rel => exact ⟨i + 1, by go_num, by omega, by omega, below_drewN hbw _⟩
  · have z1 : ¬ (i : Int) < (xs.length : Int) := by omega
    have HB2 : Hid (Below w.heap.size w wr) := HB.out
    clear HB
    go_wp2_with fail
    go_ret
    exact ⟨rfl, HB2.out⟩
theorem steps_eqW (va vb : Value) (xs : List Stp) (K L : Nat → Prop) (w : World) (h : ListIs rStpW 3 32 K w va xs) (h' : ListIs rStpW 3 32 L w vb xs) (hK : ∀ b, K b → b < w.heap.size) (hL : ∀ b, L b → b < w.heap.size) :
 Calls prog 24 #[va, vb] w fun e w' => e = .returned (.bool true) ∧ Below w.heap.size w w' := by
 obtain ⟨p, c, rfl, hby, hp⟩ := h
 obtain ⟨q, d, rfl, _, hq⟩ := h'
 have HP : Hid _ := hp
 have HQ : Hid _ := hq
 have t3 : ((xs.length : Int) != (xs.length : Int)) = false := by simp
 have HKK : Hid (∀ b, K b → b < w.heap.size) := hK
 have HLL : Hid (∀ b, L b → b < w.heap.size) := hL
 clear hp hq hK hL
 go_enter func24, ntmps24
 go_wp2_with fail
 go_loopg [13] xs.length (fun gf s30 wx => ∃ i : Nat, s30 = .int .i64 i ∧ i ≤ xs.length ∧ xs.length ≤ i + gf ∧ Hid (Below w.heap.size w wx))
 case atStart => exact ⟨0, rfl, by omega, by omega, Below.refl _ _⟩
 case round =>
  obtain ⟨i, rfl, hi1, hgf, HB⟩ := hrel
  by_cases hi : i < xs.length
  · obtain ⟨g', rfl⟩ : ∃ g', gk = g' + 1 := ⟨gk - 1, by omega⟩
    obtain ⟨b, o, rfl, hKb, hc⟩ := HP.out (by omega)
    obtain ⟨b', o', rfl, hLb, hc'⟩ := HQ.out (by omega)
    obtain ⟨cs, hcl, hcell, hrel1⟩ := hc i hi
    obtain ⟨ds, hdl, hdell, hrel2⟩ := hc' i hi
    obtain ⟨x, hx⟩ : ∃ x, xs[i] = x := ⟨_, rfl⟩
    rw [hx] at hrel1 hrel2
    have hcs := hrel1.1
    have hds := hrel2.1
    have hcell2 : ∀ j u, cs[j]? = some u → wr.cell? ⟨b, o + i * 3 + j, none⟩ = some u := fun j u hj => by rw [HB.out.cell (p := ⟨b, _, none⟩) (HKK.out _ hKb)]; exact hcell j u hj
    have hdell2 : ∀ j u, ds[j]? = some u → wr.cell? ⟨b', o' + i * 3 + j, none⟩ = some u := fun j u hj => by rw [HB.out.cell (p := ⟨b', _, none⟩) (HLL.out _ hLb)]; exact hdell j u hj
    rw [hcs] at hcell2
    rw [hds] at hdell2
    have c0 := hcell2 0 _ rfl
    have e0 := hdell2 0 _ rfl
    have c1 := hcell2 1 _ rfl
    have e1 := hdell2 1 _ rfl
    have c2 := hcell2 2 _ rfl
    have e2 := hdell2 2 _ rfl
    simp only [Nat.add_zero, Nat.mul_one] at c0 e0
    obtain ⟨S, hS⟩ : ∃ S : ByteArray, (⟨x.t.toArray⟩ : ByteArray) = S := ⟨_, rfl⟩
    rw [hS] at c1 e1
    clear hS
    have z0 : (0 : Int) ≤ (i : Int) := by omega
    have z1 : (i : Int) < (xs.length : Int) := by omega
    have hbw := HB.out
    clear hc hc' hcell hdell hcell2 hdell2 hrel1 hrel2 hx HB hcl hdl hKb hLb hcs hds
    have hne := run_step_eqW (x.k : Int) x.n S
    go_wp2_with fail
    go_quiet (fail)
    go_wp2_with fail
    go_roundg g'
    case measure => omega
    case rel => exact ⟨i + 1, by go_num, by omega, by omega, below_drewN hbw _⟩
  · have z1 : ¬ (i : Int) < (xs.length : Int) := by omega
    have HB2 : Hid (Below w.heap.size w wr) := HB.out
    clear HB
    go_wp2_with fail
    go_ret
    exact ⟨rfl, HB2.out⟩
theorem cell_list {α : Type} {rel : Rel α} {size bytes : Nat} {K : Nat → Prop} {w : World} {q : Option Addr} {n c : Nat} {l : List α} (h : ListIs rel size bytes K w (.slice q n c) l) (hl : 0 < l.length) : ∃ b o, q = some ⟨b, o, none⟩ ∧ K b ∧ ∀ i (hi : i < l.length), ∃ cs, (∀ j u, cs[j]? = some u → w.cell? ⟨b, o + i * size + j, none⟩ = some u) ∧ rel K w cs l[i] := by
 obtain ⟨q', c', e, _, hp⟩ := h
 obtain ⟨b, o, rfl, hKb, hc⟩ := hp hl
 cases e
 refine ⟨b, o, rfl, hKb, fun i hi => ?_⟩
 obtain ⟨cs, _, hcell, hr⟩ := hc i hi
 exact ⟨cs, hcell, hr⟩
theorem same_eqB (K L : Nat → Prop) (b : Bnd) (pw pg pi pn pk pw2 pg2 pi2 pn2 pk2 : Option Addr) (cw cg ci cn ck cw2 cg2 ci2 cn2 ck2 : Nat) (w : World)
 (hw : ListIs rStpW 3 32 K w (.slice pw b.w.length cw) b.w) (hg : ListIs rInt 1 8 K w (.slice pg b.g.length cg) b.g) (hi : ListIs rItmW 2 32 K w (.slice pi b.i.length ci) b.i) (hn : ListIs rStrW 1 16 K w (.slice pn b.n.length cn) b.n) (hk : ListIs rKnd 1 1 K w (.slice pk b.k.length ck) b.k)
 (hw2 : ListIs rStpW 3 32 L w (.slice pw2 b.w.length cw2) b.w) (hg2 : ListIs rInt 1 8 L w (.slice pg2 b.g.length cg2) b.g) (hi2 : ListIs rItmW 2 32 L w (.slice pi2 b.i.length ci2) b.i) (hn2 : ListIs rStrW 1 16 L w (.slice pn2 b.n.length cn2) b.n) (hk2 : ListIs rKnd 1 1 L w (.slice pk2 b.k.length ck2) b.k)
 (hK : ∀ b, K b → b < w.heap.size) (hL : ∀ b, L b → b < w.heap.size) :
 Calls prog 11 #[.agg (bndC b pw pg pi pn pk cw cg ci cn ck).toArray, .agg (bndC b pw2 pg2 pi2 pn2 pk2 cw2 cg2 ci2 cn2 ck2).toArray] w fun e w' => e = .returned (.bool true) ∧ Below w.heap.size w w' := by
 obtain ⟨t0, ht0⟩ : ∃ s : ByteArray, (⟨b.t.toArray⟩ : ByteArray) = s := ⟨_, rfl⟩
 obtain ⟨t1, ht1⟩ : ∃ s : ByteArray, (⟨b.j.toArray⟩ : ByteArray) = s := ⟨_, rfl⟩
 obtain ⟨bd, hbd⟩ : ∃ x, b.d = x := ⟨_, rfl⟩
 obtain ⟨ba, hba⟩ : ∃ x, b.a = x := ⟨_, rfl⟩
 obtain ⟨bb, hbb⟩ : ∃ x, b.b = x := ⟨_, rfl⟩
 obtain ⟨br, hbr⟩ : ∃ x, b.r = x := ⟨_, rfl⟩
 obtain ⟨n1, hn1⟩ : ∃ x, b.w.length = x := ⟨_, rfl⟩
 obtain ⟨n2, hn2'⟩ : ∃ x, b.g.length = x := ⟨_, rfl⟩
 obtain ⟨n3, hn3⟩ : ∃ x, b.i.length = x := ⟨_, rfl⟩
 obtain ⟨n4, hn4⟩ : ∃ x, b.n.length = x := ⟨_, rfl⟩
 obtain ⟨n5, hn5⟩ : ∃ x, b.k.length = x := ⟨_, rfl⟩
 have hA : (bndC b pw pg pi pn pk cw cg ci cn ck).toArray = #[.string t0, .string t1, .int .i64 bd, .int .i64 ba, .int .i64 bb, .slice pw n1 cw, .slice pg n2 cg, .slice pi n3 ci, .bool br, .slice pn n4 cn, .slice pk n5 ck] := by unfold bndC; rw [ht0, ht1, hbd, hba, hbb, hbr, hn1, hn2', hn3, hn4, hn5]
 have hB : (bndC b pw2 pg2 pi2 pn2 pk2 cw2 cg2 ci2 cn2 ck2).toArray = #[.string t0, .string t1, .int .i64 bd, .int .i64 ba, .int .i64 bb, .slice pw2 n1 cw2, .slice pg2 n2 cg2, .slice pi2 n3 ci2, .bool br, .slice pn2 n4 cn2, .slice pk2 n5 ck2] := by unfold bndC; rw [ht0, ht1, hbd, hba, hbb, hbr, hn1, hn2', hn3, hn4, hn5]
 have HN : Hid (b.g.length = n2 ∧ b.i.length = n3 ∧ b.k.length = n5) := ⟨hn2', hn3, hn5⟩
 obtain ⟨W0, hW0, hb0, hz0, g0, g1⟩ := two_boxes2 w #[.string t0, .string t1, .int .i64 bd, .int .i64 ba, .int .i64 bb, .slice pw n1 cw, .slice pg n2 cg, .slice pi n3 ci, .bool br, .slice pn n4 cn, .slice pk n5 ck] #[.string t0, .string t1, .int .i64 bd, .int .i64 ba, .int .i64 bb, .slice pw2 n1 cw2, .slice pg2 n2 cg2, .slice pi2 n3 ci2, .bool br, .slice pn2 n4 cn2, .slice pk2 n5 ck2] 32 32
 have HG : Hid (∀ V, Below W0.heap.size W0 V → V.heap[w.heap.size]? = some (.cells #[.string t0, .string t1, .int .i64 bd, .int .i64 ba, .int .i64 bb, .slice pw n1 cw, .slice pg n2 cg, .slice pi n3 ci, .bool br, .slice pn n4 cn, .slice pk n5 ck] 32 (0, 0)) ∧ V.heap[w.heap.size + 1]? = some (.cells #[.string t0, .string t1, .int .i64 bd, .int .i64 ba, .int .i64 bb, .slice pw2 n1 cw2, .slice pg2 n2 cg2, .slice pi2 n3 ci2, .bool br, .slice pn2 n4 cn2, .slice pk2 n5 ck2] 32 (0, 0)) ∧ Below w.heap.size w V) := fun V hb => ⟨(hb.block _ (by omega)).trans g0, (hb.block _ (by omega)).trans g1, hb0.trans (hb.mono hb0.size)⟩
 have hKV : ∀ V, Below w.heap.size w V → ∀ b, K b → b < V.heap.size := fun V hV b hb => Nat.lt_of_lt_of_le (hK b hb) hV.size
 have hLV : ∀ V, Below w.heap.size w V → ∀ b, L b → b < V.heap.size := fun V hV b hb => Nat.lt_of_lt_of_le (hL b hb) hV.size
 have CS : Hid (Calls prog 24 #[.slice pw n1 cw, .slice pw2 n1 cw2] W0 fun e w' => e = .returned (.bool true) ∧ Below W0.heap.size W0 w') := by have := steps_eqW _ _ b.w K L W0 (hw.later mStpW hK hb0) (hw2.later mStpW hL hb0) (hKV _ hb0) (hLV _ hb0); rw [hn1] at this; exact this
 have CT : Hid (∀ V, Below W0.heap.size W0 V → Calls prog 25 #[.slice pn n4 cn, .slice pn2 n4 cn2] V fun e w' => e = .returned (.bool true) ∧ Below V.heap.size V w') := fun V hb => by have hbw := hb0.trans (hb.mono hb0.size); have := texts_eqW _ _ b.n K L V (hn.later mStrW hK hbw) (hn2.later mStrW hL hbw) (hKV _ hbw) (hLV _ hbw); rw [hn4] at this; exact this
 have hbig : n2 ≤ 140737488355328 ∧ n3 ≤ 140737488355328 ∧ n5 ≤ 140737488355328 := by
  obtain ⟨_, _, _, ⟨h1, _⟩, _⟩ := hg
  obtain ⟨_, _, _, ⟨h2, _⟩, _⟩ := hi
  obtain ⟨_, _, _, ⟨h3, _⟩, _⟩ := hk
  omega
 have HLG : Hid (∀ V, Below w.heap.size w V → ListIs rInt 1 8 K V (.slice pg n2 cg) b.g ∧ ListIs rInt 1 8 L V (.slice pg2 n2 cg2) b.g) := fun V hV => by
  have h1 := hg.later mInt hK hV
  have h2 := hg2.later mInt hL hV
  rw [hn2'] at h1 h2
  exact ⟨h1, h2⟩
 have HLK : Hid (∀ V, Below w.heap.size w V → ListIs rKnd 1 1 K V (.slice pk n5 ck) b.k ∧ ListIs rKnd 1 1 L V (.slice pk2 n5 ck2) b.k) := fun V hV => by
  have h1 := hk.later mKnd hK hV
  have h2 := hk2.later mKnd hL hV
  rw [hn5] at h1 h2
  exact ⟨h1, h2⟩
 have HLI : Hid (∀ V, Below w.heap.size w V → ListIs rItmW 2 32 K V (.slice pi n3 ci) b.i ∧ ListIs rItmW 2 32 L V (.slice pi2 n3 ci2) b.i) := fun V hV => by
  have h1 := hi.later mItmW hK hV
  have h2 := hi2.later mItmW hL hV
  rw [hn3] at h1 h2
  exact ⟨h1, h2⟩
 have HKV := hid hKV
 have HLV := hid hLV
 have HBG := hid hbig
 have a0 := cell_of_row (k := 0) (v := .string t0) g0 rfl
 have b0 := cell_of_row (k := 0) (v := .string t0) g1 rfl
 have a1 := cell_of_row (k := 1) (v := .string t1) g0 rfl
 have b1 := cell_of_row (k := 1) (v := .string t1) g1 rfl
 have a2 := cell_of_row (k := 2) (v := .int .i64 bd) g0 rfl
 have b2 := cell_of_row (k := 2) (v := .int .i64 bd) g1 rfl
 have a3 := cell_of_row (k := 3) (v := .int .i64 ba) g0 rfl
 have b3 := cell_of_row (k := 3) (v := .int .i64 ba) g1 rfl
 have a4 := cell_of_row (k := 4) (v := .int .i64 bb) g0 rfl
 have b4 := cell_of_row (k := 4) (v := .int .i64 bb) g1 rfl
 have a5 := cell_of_row (k := 5) (v := .slice pw n1 cw) g0 rfl
 have b5 := cell_of_row (k := 5) (v := .slice pw2 n1 cw2) g1 rfl
 have a8 := cell_of_row (k := 8) (v := .bool br) g0 rfl
 have b8 := cell_of_row (k := 8) (v := .bool br) g1 rfl
 rw [hA, hB]
 clear hw hg hi hn hk hw2 hg2 hi2 hn2 hk2 hK hL hKV hLV ht0 ht1 hbd hba hbb hbr hn1 hn2' hn3 hn4 hn5 hA hB hb0 g0 g1 hz0 hbig
 go_enter func11, ntmps11
 go_wp2_with fail
 refine CS.out.mono ?_
 rintro e w1 ⟨rfl, hb1⟩
 obtain ⟨k0, k1, _⟩ := HG.out w1 hb1
 have a9 := cell_of_row (k := 9) (v := .slice pn n4 cn) k0 rfl
 have b9 := cell_of_row (k := 9) (v := .slice pn2 n4 cn2) k1 rfl
 have C2 := hid (CT.out w1 hb1)
 have HB1 := hid hb1
 clear CS CT hb1 k0 k1 a0 a1 a2 a3 a4 a5 a8 b0 b1 b2 b3 b4 b5 b8 hW0
 go_wp2_with fail
 refine C2.out.mono ?_
 rintro e w2 ⟨rfl, hb2⟩
 have hbw2 : Below W0.heap.size W0 w2 := HB1.out.trans (hb2.mono HB1.out.size)
 obtain ⟨k0, k1, _⟩ := HG.out w2 hbw2
 have a6 := cell_of_row (k := 6) (v := .slice pg n2 cg) k0 rfl
 have b6 := cell_of_row (k := 6) (v := .slice pg2 n2 cg2) k1 rfl
 have a7 := cell_of_row (k := 7) (v := .slice pi n3 ci) k0 rfl
 have b7 := cell_of_row (k := 7) (v := .slice pi2 n3 ci2) k1 rfl
 have a10 := cell_of_row (k := 10) (v := .slice pk n5 ck) k0 rfl
 have b10 := cell_of_row (k := 10) (v := .slice pk2 n5 ck2) k1 rfl
 have HB2 := hid hbw2
 clear C2 hb2 hbw2 k0 k1 a9 b9 HB1
 go_wp2_with fail
 go_loopg [5, 92] n2 (fun gf s5 s92 wx => ∃ i : Nat, s92 = .int .i64 i ∧ i ≤ n2 ∧ n2 ≤ i + gf ∧ Hid (Below W0.heap.size W0 wx))
 case atStart => exact ⟨0, rfl, by omega, by have := HBG; omega, HB2⟩
 case round =>
  clear HB2
  obtain ⟨i, rfl, hi1, hgf, HB⟩ := hrel
  obtain ⟨k0, k1, hbw⟩ := HG.out wr HB.out
  by_cases hi : i < n2
  · obtain ⟨g', rfl⟩ : ∃ g', gk = g' + 1 := ⟨gk - 1, by omega⟩
    have hil : i < b.g.length := by rw [HN.out.1]; exact hi
    obtain ⟨h1, h2⟩ := HLG.out wr hbw
    obtain ⟨bx, ox, hp1, -, hc⟩ := cell_list h1 (by omega)
    obtain ⟨by2, oy, hp2, -, hc'⟩ := cell_list h2 (by omega)
    subst hp1
    subst hp2
    obtain ⟨cs1, hr1, hq1⟩ := hc i hil
    obtain ⟨cs2, hr2, hq2⟩ := hc' i hil
    obtain ⟨y, hy⟩ : ∃ y, b.g[i] = y := ⟨_, rfl⟩
    rw [hy] at hq1 hq2
    rw [hq1] at hr1
    rw [hq2] at hr2
    have hbn : n2 ≤ 140737488355328 := by have := HBG.out; omega
    have c0 := hr1 0 _ rfl
    have e0 := hr2 0 _ rfl
    simp only [Nat.add_zero, Nat.mul_one] at c0 e0
    have x6 := cell_of_row (k := 6) (v := .slice (some ⟨bx, ox, none⟩) n2 cg) k0 rfl
    have y6 := cell_of_row (k := 6) (v := .slice (some ⟨by2, oy, none⟩) n2 cg2) k1 rfl
    have z0 : (0 : Int) ≤ (i : Int) := by omega
    have z1 : (i : Int) < (n2 : Int) := by omega
    have hbb := HB.out
    clear HB k0 k1 hbw h1 h2 hc hc' hr1 hr2 hq1 hq2 hy hil
    go_wp2_with fail
    go_quiet (fail)
    go_wp2_with fail
    go_roundg g'
    case measure => omega
    case rel => exact ⟨i + 1, by go_num, by omega, by omega, below_drewN hbb _⟩
  · have z1 : ¬ (i : Int) < (n2 : Int) := by omega
    obtain ⟨w3, hw3⟩ : ∃ V, V = wr := ⟨_, rfl⟩
    subst hw3
    have HB3 : Hid (Below W0.heap.size W0 w3) := HB.out
    have q10 := cell_of_row (k := 10) (v := .slice pk n5 ck) k0 rfl
    have p10 := cell_of_row (k := 10) (v := .slice pk2 n5 ck2) k1 rfl
    clear HB k0 k1 hbw a6 b6 a7 b7 a10 b10
    go_wp2_with fail
    go_loopg [6, 110] n5 (fun gf s5 s92 wx => ∃ i : Nat, s92 = .int .i64 i ∧ i ≤ n5 ∧ n5 ≤ i + gf ∧ Hid (Below W0.heap.size W0 wx))
    case atStart => exact ⟨0, rfl, by omega, by have := HBG; omega, HB3⟩
    case round =>
     clear HB3
     obtain ⟨i, rfl, hi1, hgf, HB⟩ := hrel
     obtain ⟨k0, k1, hbw⟩ := HG.out wr HB.out
     by_cases hi : i < n5
     · obtain ⟨g', rfl⟩ : ∃ g', gk = g' + 1 := ⟨gk - 1, by omega⟩
       have hil : i < b.k.length := by rw [HN.out.2.2]; exact hi
       obtain ⟨h1, h2⟩ := HLK.out wr hbw
       obtain ⟨bx, ox, hp1, -, hc⟩ := cell_list h1 (by omega)
       obtain ⟨by2, oy, hp2, -, hc'⟩ := cell_list h2 (by omega)
       subst hp1
       subst hp2
       obtain ⟨cs1, hr1, hq1⟩ := hc i hil
       obtain ⟨cs2, hr2, hq2⟩ := hc' i hil
       obtain ⟨y, hy⟩ : ∃ y, b.k[i] = y := ⟨_, rfl⟩
       rw [hy] at hq1 hq2
       rw [hq1.1] at hr1
       rw [hq2.1] at hr2
       have hbn : n5 ≤ 140737488355328 := by have := HBG.out; omega
       have c0 := hr1 0 _ rfl
       have e0 := hr2 0 _ rfl
       simp only [Nat.add_zero, Nat.mul_one] at c0 e0
       have x10 := cell_of_row (k := 10) (v := .slice (some ⟨bx, ox, none⟩) n5 ck) k0 rfl
       have y10 := cell_of_row (k := 10) (v := .slice (some ⟨by2, oy, none⟩) n5 ck2) k1 rfl
       have z0 : (0 : Int) ≤ (i : Int) := by omega
       have z1 : (i : Int) < (n5 : Int) := by omega
       have hbb := HB.out
       clear HB k0 k1 hbw h1 h2 hc hc' hr1 hr2 hq1 hq2 hy hil
       go_wp2_with fail
       go_quiet (fail)
       go_wp2_with fail
       go_roundg g'
       case measure => omega
       case rel => exact ⟨i + 1, by go_num, by omega, by omega, below_drewN hbb _⟩
     · have z1 : ¬ (i : Int) < (n5 : Int) := by omega
       obtain ⟨w4, hw3⟩ : ∃ V, V = wr := ⟨_, rfl⟩
       subst hw3
       have HB4 : Hid (Below W0.heap.size W0 w4) := HB.out
       have q10 := cell_of_row (k := 7) (v := .slice pi n3 ci) k0 rfl
       have p10 := cell_of_row (k := 7) (v := .slice pi2 n3 ci2) k1 rfl
       clear HB k0 k1 hbw 
       go_wp2_with fail
       go_loopg [7, 128] n3 (fun gf s7 s128 wx => ∃ i : Nat, s128 = .int .i64 i ∧ i ≤ n3 ∧ n3 ≤ i + gf ∧ Hid (Below W0.heap.size W0 wx))
       case atStart => exact ⟨0, rfl, by omega, by omega, HB4⟩
       case round =>
        clear HB4 q10 p10
        obtain ⟨i, rfl, hi1, hgf, HB⟩ := hrel
        obtain ⟨k0, k1, hbw⟩ := HG.out wr HB.out
        by_cases hi : i < n3
        · obtain ⟨g', rfl⟩ : ∃ g', gk = g' + 1 := ⟨gk - 1, by omega⟩
          have hil : i < b.i.length := by rw [HN.out.2.1]; exact hi
          have hkr := HKV.out wr hbw
          have hlr := HLV.out wr hbw
          obtain ⟨h1, h2⟩ := HLI.out wr hbw
          obtain ⟨bx, ox, hp1, hKb, hc⟩ := itm_w h1 (by omega)
          obtain ⟨by2, oy, hp2, hLb, hc'⟩ := itm_w h2 (by omega)
          subst hp1
          subst hp2
          obtain ⟨u1, f1, hr1, hl1, -⟩ := hc i hil
          obtain ⟨u2, f2, hr2, hl2, -⟩ := hc' i hil
          obtain ⟨y, hy⟩ : ∃ y, b.i[i] = y := ⟨_, rfl⟩
          rw [hy] at hr1 hl1 hr2 hl2
          have n5' : ((y.g : Int) != (y.g : Int)) = false := by simp
          have cS : Hid (∀ p : LaterS wr.heap.size wr, Calls prog 24 #[.slice u1 y.e.length f1, .slice u2 y.e.length f2] p.w fun e w' => e = .returned (.bool true) ∧ Below p.w.heap.size p.w w') := fun p =>
           steps_eqW _ _ y.e K L p.w (hl1.later mStpW hkr p.h) (hl2.later mStpW hlr p.h) (fun b hb => Nat.lt_of_lt_of_le (hkr b hb) p.h.size) (fun b hb => Nat.lt_of_lt_of_le (hlr b hb) p.h.size)
          have c0 : ∀ p : LaterS wr.heap.size wr, p.w.cell? ⟨bx, ox + i * 2, none⟩ = some (.int .u8 (y.g : Int)) := fun p => (p.h.cell (p := ⟨bx, _, none⟩) (hkr _ hKb)).trans (hr1 0 _ rfl)
          have c1 : ∀ p : LaterS wr.heap.size wr, p.w.cell? ⟨bx, ox + i * 2 + 1, none⟩ = some (.slice u1 y.e.length f1) := fun p => (p.h.cell (p := ⟨bx, _, none⟩) (hkr _ hKb)).trans (hr1 1 _ rfl)
          have e0 : ∀ p : LaterS wr.heap.size wr, p.w.cell? ⟨by2, oy + i * 2, none⟩ = some (.int .u8 (y.g : Int)) := fun p => (p.h.cell (p := ⟨by2, _, none⟩) (hlr _ hLb)).trans (hr2 0 _ rfl)
          have e1 : ∀ p : LaterS wr.heap.size wr, p.w.cell? ⟨by2, oy + i * 2 + 1, none⟩ = some (.slice u2 y.e.length f2) := fun p => (p.h.cell (p := ⟨by2, _, none⟩) (hlr _ hLb)).trans (hr2 1 _ rfl)
          have m0 : ∀ p : LaterS wr.heap.size wr, p.w.cell? ⟨w.heap.size, 7, none⟩ = some (.slice (some ⟨bx, ox, none⟩) n3 ci) := fun p => cell_of_row (k := 7) (HG.out p.w (HB.out.trans (p.h.mono HB.out.size))).1 rfl
          have m1 : ∀ p : LaterS wr.heap.size wr, p.w.cell? ⟨w.heap.size + 1, 7, none⟩ = some (.slice (some ⟨by2, oy, none⟩) n3 ci2) := fun p => cell_of_row (k := 7) (HG.out p.w (HB.out.trans (p.h.mono HB.out.size))).2.1 rfl
          have z0 : (0 : Int) ≤ (i : Int) := by omega
          have z1 : (i : Int) < (n3 : Int) := by omega
          have hbn : n3 ≤ 140737488355328 := by have := HBG.out; omega
          have HB5 : Hid (Below W0.heap.size W0 wr) := HB.out
          clear hc hc' hr1 hr2 hl1 hl2 hy HB hKb hLb hkr hlr hbw k0 k1 hil h1 h2
          go_wp2_with fail
          have inhL := laterInh
          refine wp_region_laterS mixedOnS (by kernel_rfl) ?_
          repeat (go_big_quiet_step ((go_at_call 24; exact calls_laterS (cS.out _))))
          refine wpQuiet_nil ?_
          intro w5 hw'
          obtain ⟨⟨wq, hwq⟩, hw''⟩ := hw'
          subst hw''
          go_wp2_with fail
          go_roundg g'
          case measure => omega
          case rel => exact ⟨i + 1, by go_num, by omega, by omega, HB5.out.trans (hwq.mono HB5.out.size)⟩
        · have z1 : ¬ (i : Int) < (n3 : Int) := by omega
          have HBW := hid hbw
          clear HB k0 k1 hbw
          go_wp2_with fail
          go_ret
          exact ⟨rfl, HBW.out⟩
open Go.RowKit Go.Lib
theorem catGo_more (t : Tab) : ∀ (l bs : List Tab), catGo bs (l ++ [t]) = 0 → catGo bs l = 0
 | [], bs, h => rfl
 | a :: l, bs, h => by
  rw [List.cons_append] at h
  unfold catGo at h ⊢
  split
  · rename_i h1
    rw [if_pos h1] at h
    split
    · rename_i h2
      rw [if_pos h2] at h
      exact absurd h (by decide)
    · rename_i h2
      rw [if_neg h2] at h
      exact catGo_more t l _ h
  · rename_i h1
    rw [if_neg h1] at h
    exact h
theorem cat_more {l : List Tab} {t : Tab} (h : catP (l ++ [t]) = 0) : catP l = 0 := by
 unfold catP at h ⊢
 split at h
 · exact absurd h (by decide)
 · rename_i h1
   rw [if_neg (by simp at h1; omega)]
   exact catGo_more t l [] h
theorem find_more {l : List Tab} {t : Tab} {n : List UInt8} (h : t.n ≠ n) : findP (l ++ [t]) n = findP l n := by
 unfold findP
 rw [List.find?_append]
 have : List.find? (isNamed n) [t] = none := by
  rw [List.find?_cons_of_neg (by unfold isNamed; simp [h])]
  rfl
 rw [this]
 simp
theorem bind_more {q : Qry} {l : List Tab} {t : Tab} (h : catP (l ++ [t]) = 0) (h1 : t.n ≠ q.t) (h2 : t.n ≠ q.j) : bindP q (l ++ [t]) = bindP q l := by
 unfold bindP
 rw [if_neg (show ¬ catP (l ++ [t]) ≠ 0 by simp [h]), if_neg (show ¬ catP l ≠ 0 by simp [cat_more h])]
 unfold resolveP scopeP
 rw [find_more h1, find_more h2]
theorem inE_tab : ∃ i0, prog.info? 56 = some i0 ∧ i0.zero = some (.agg #[.string ⟨#[]⟩, .slice none 0 0, .slice none 0 0]) ∧ i0.size = 3 ∧ i0.bytes = 64 := by
 have h1 : (prog.info? 56).bind (·.zero) = some (.agg #[.string ⟨#[]⟩, .slice none 0 0, .slice none 0 0]) := by kernel_rfl
 have h2 : (prog.info? 56).map (fun i => (i.size, i.bytes)) = some (3, 64) := by kernel_rfl
 cases h : prog.info? 56 with
 | none => rw [h] at h2; cases h2
 | some i0 =>
  rw [h] at h1 h2
  have h3 := Option.some.inj h2
  exact ⟨i0, rfl, h1, (Prod.mk.inj h3).1, (Prod.mk.inj h3).2⟩
theorem _root_.Go.Proofs.YtfifphfihdhlaaaGreatDoor.OwnK.list0 {α : Type} {K : Nat → Prop} {rel : Rel α} (hm : Mono rel) {size bytes : Nat} {te : TypeId} {base : Nat} {W : World} {u : Value} {xs : List α} (h : OwnK K rel size te base W u xs) (hK : ∀ b, K b → b < W.heap.size) (hb : xs.length * bytes ≤ 140737488355328) : ListIs rel size bytes (fun b => b < W.heap.size) W u xs := by
 obtain ⟨cells, ho, hr⟩ := h
 have hr2 : ∀ j (h : j < xs.length), rel (fun b => b < W.heap.size) W ((cells.drop (j * size)).take size) xs[j] := fun j hj => hm _ _ _ _ _ _ (fun b h => hK b h) ⟨rfl, rfl, rfl, Nat.le_refl _, fun _ _ => rfl⟩ (hr j hj)
 obtain ⟨hl, ⟨rfl, hn⟩ | ⟨g, cap, cur, rfl, hbg, hg, hnc, hcm, hcs, htake⟩⟩ := ho
 · exact ⟨none, 0, by rw [hn], ⟨hb, by omega⟩, fun h => by omega⟩
 · refine ⟨_, cap, rfl, ⟨hb, hnc⟩, fun _ => ⟨g, 0, rfl, (Array.getElem?_eq_some_iff.1 hg).1, fun j hj => ⟨_, ?_, fun i u hu => ?_, hr2 j hj⟩⟩⟩
   · have h1 : j * size + size ≤ xs.length * size := by
      have := Nat.mul_le_mul_right size (show j + 1 ≤ xs.length by omega)
      rwa [Nat.add_mul, Nat.one_mul] at this
     rw [List.length_take, List.length_drop, hl]; omega
   · have hi : i < size := by
      have := (List.getElem?_eq_some_iff.1 hu).1
      rw [List.length_take] at this; omega
     rw [List.getElem?_take_of_lt hi, List.getElem?_drop, ← htake] at hu
     have hlt : j * size + i < xs.length * size := by
      have := Nat.mul_le_mul_right size (show j + 1 ≤ xs.length by omega)
      rw [Nat.add_mul, Nat.one_mul] at this; omega
     rw [List.getElem?_take_of_lt hlt] at hu
     rw [Nat.zero_add]
     exact cell_of_row hg (by simpa using hu)
theorem below_kept {B : Nat} {w V X : World} {P : Nat → Prop} (h : Below B w V) (hk : Kept P V X) (hP : ∀ b, b < B → P b) : Below B w X := ⟨hk.os.trans h.os, hk.tape.trans h.tape, hk.output.trans h.output, Nat.le_trans h.size hk.size, fun b hb => (hk.block b (hP b hb)).trans (h.block b hb)⟩
theorem app_bare (K : Nat → Prop) (X : World) (g : Nat) (hg : X.heap[g]? = some (.cells #[] 56 (0, 0))) (a : Option Addr) (n cc : Nat) (l : List Tab) (hn : l.length = n) (h : ListIs rTab 3 64 K X (.slice a n cc) l) (hK : ∀ b, K b → b < X.heap.size ∧ b ≠ g) : ∃ p c X2, (Builtin.append_ #[27, 27] 27 #[.slice (some ⟨g, 0, none⟩) 0 0, .slice a n cc]).run prog X = .ok (.slice p n c) X2 ∧ OwnK K rTab 3 56 0 X2 (.slice p n c) l ∧ Kept (fun b => b < X.heap.size ∧ b ≠ g) X X2 ∧ ∀ g', (Value.slice p n c).ownBlock = some g' → g' = g ∨ g' = X.heap.size := by
 subst hn
 obtain ⟨i0, hi0, hiz, his, hib⟩ := inE_tab
 have hb : l.length * 64 ≤ 140737488355328 := by
  obtain ⟨_, _, -, ⟨hb, -⟩, -⟩ := h
  exact hb
 have hown : X.ownsRow 0 56 3 (.slice (some ⟨g, 0, none⟩) 0 0) 0 [] := ⟨by simp, .inr ⟨g, 0, #[], rfl, Nat.zero_le _, hg, Nat.le_refl _, Nat.zero_le _, by simp, by simp⟩⟩
 have h0 : OwnK K rTab 3 56 0 X (.slice (some ⟨g, 0, none⟩) 0 0) [] := ⟨[], hown, fun j h => absurd h (by simp)⟩
 obtain ⟨v', X2, e, ho, hk, hv⟩ := OwnK.app mTab (bytes := 64) (ts := 27) underlying27 hi0 hiz his hib rfl (by omega) h0 (Nat.zero_le _) h (fun cs y h => by obtain ⟨v, pr, nr, cr, rfl, hl, _⟩ := h; obtain ⟨_, _, rfl, _⟩ := hl; intro u hu; simp at hu; rcases hu with rfl | rfl | rfl <;> rfl) (fun b hb => ⟨Nat.zero_le _, (hK b hb).1, by intro e; cases e; exact (hK _ hb).2 rfl⟩) (by simp; omega) (by unfold maxLen; simp; omega) 27
 rw [List.nil_append] at ho
 have hs : ∃ p c, v' = .slice p l.length c := by
  obtain ⟨cells, ho2, _⟩ := ho
  exact owns_slice ho2
 obtain ⟨p, c, rfl⟩ := hs
 refine ⟨p, c, X2, e, ho, hk.less fun b hb => ⟨hb.1, by intro e; cases e; exact hb.2 rfl⟩, fun g' hg' => ?_⟩
 rcases hv with hv | hv
 · rw [hv] at hg'
   cases hg'
   exact .inl rfl
 · rw [hv] at hg'
   cases hg'
   exact .inr rfl
theorem app_row (K : Nat → Prop) (X : World) (r : Nat) (tS : ByteArray) (vc : Value) (pr : Option Addr) (nr cr : Nat) (t : Tab) (hr : X.heap[r]? = some (.cells #[.string tS, vc, .slice pr nr cr] 56 (0, 0))) (p : Option Addr) (n c : Nat) (l : List Tab) (hn : l.length = n) (ho : OwnK K rTab 3 56 0 X (.slice p n c) l) (hne : (Value.slice p n c).ownBlock ≠ some r) (hK : ∀ b, K b → b < X.heap.size ∧ (Value.slice p n c).ownBlock ≠ some b) (hrt : rTab K X [.string tS, vc, .slice pr nr cr] t) (hb : (n + 1) * 64 ≤ 140737488355328) :
 ∃ p4 c4 X4, (Builtin.append_ #[27, 27] 27 #[.slice p n c, .slice (some ⟨r, 0, none⟩) 1 1]).run prog X = .ok (.slice p4 (n + 1) c4) X4 ∧ ListIs rTab 3 64 (fun b => b < X4.heap.size) X4 (.slice p4 (n + 1) c4) (l ++ [t]) ∧ Kept (fun b => b < X.heap.size ∧ (Value.slice p n c).ownBlock ≠ some b) X X4 := by
 subst hn
 obtain ⟨i0, hi0, hiz, his, hib⟩ := inE_tab
 have hrl : r < X.heap.size := (Array.getElem?_eq_some_iff.1 hr).1
 have hrefl : ∀ (P : Nat → Prop), Kept P X X := fun P => ⟨rfl, rfl, rfl, Nat.le_refl _, fun _ _ => rfl⟩
 have ho2 : OwnK (fun b => K b ∨ b = r) rTab 3 56 0 X (.slice p l.length c) l := by
  obtain ⟨cells, h1, h2⟩ := ho
  exact ⟨cells, h1, fun j hj => mTab _ _ _ _ _ _ (fun _ h => .inl h) (hrefl _) (h2 j hj)⟩
 have hy : ListIs rTab 3 64 (fun b => K b ∨ b = r) X (.slice (some ⟨r, 0, none⟩) [t].length 1) [t] := by
  refine ⟨_, 1, rfl, ⟨by simp, by simp⟩, fun _ => ⟨r, 0, rfl, .inr rfl, fun j hj => ?_⟩⟩
  have hj0 : j = 0 := by simp at hj; omega
  subst hj0
  exact ⟨[.string tS, vc, .slice pr nr cr], rfl, fun i u hu => by rw [show 0 + 0 * 3 + i = i by omega]; exact cell_of_row hr (by simpa using hu), mTab _ _ _ _ _ _ (fun _ h => .inl h) (hrefl _) hrt⟩
 obtain ⟨v', X4, e, ho4, hk, -⟩ := OwnK.app mTab (bytes := 64) (ts := 27) underlying27 hi0 hiz his hib rfl (by omega) ho2 (Nat.zero_le _) hy (fun cs y h => by obtain ⟨v, pr, nr, cr, rfl, hl, _⟩ := h; obtain ⟨_, _, rfl, _⟩ := hl; intro u hu; simp at hu; rcases hu with rfl | rfl | rfl <;> rfl) (fun b hb => ⟨Nat.zero_le _, by rcases hb with hb | hb; exact (hK b hb).1; omega, by rcases hb with hb | rfl; exact (hK b hb).2; exact hne⟩) (by simp; omega) (by unfold maxLen; simp; omega) 27
 have hs : ∃ p4 c4, v' = .slice p4 (l.length + 1) c4 := by
  obtain ⟨cells, ho5, _⟩ := ho4
  obtain ⟨p4, c4, ev⟩ := owns_slice ho5
  exact ⟨p4, c4, by rw [ev, List.length_append]; rfl⟩
 obtain ⟨p4, c4, rfl⟩ := hs
 refine ⟨p4, c4, X4, e, ho4.list0 mTab (fun b hb => ?_) (by simp; omega), hk⟩
 have := hk.size
 rcases hb with hb | hb
 · have := (hK b hb).1
   omega
 · omega
theorem rows_walk (pi pw pg : Option Addr) (ci cw cg : Nat) (q : Qry) (pt : Option Addr) (ct : Nat) (l : List Tab) (t : Tab) (vc : Value) (pr : Option Addr) (nr cr : Nat) (w : World) (h : QLsW (fun b => b < w.heap.size) w pi pw pg ci cw cg q) (ht : ListIs rTab 3 64 (fun b => b < w.heap.size) w (.slice pt l.length ct) l) (hv : ListIs rClm 2 24 (fun b => b < w.heap.size) w vc t.c) (htn : t.n.length ≤ 140737488355328) (hnl : l.length * 64 ≤ 140737488351232) (hG : GA w) :
 Calls prog 6 #[.agg (q.cl (.slice pi q.i.length ci) (.slice pw q.w.length cw) (.slice pg q.g.length cg)), .slice pt l.length ct, .agg #[.string ⟨t.n.toArray⟩, vc, .slice pr nr cr]] w fun e w' => e = .returned (.bool true) ∧ Below w.heap.size w w' := by
 obtain ⟨s0, hs0⟩ : ∃ s : ByteArray, (⟨q.t.toArray⟩ : ByteArray) = s := ⟨_, rfl⟩
 obtain ⟨s1, hs1⟩ : ∃ s : ByteArray, (⟨q.j.toArray⟩ : ByteArray) = s := ⟨_, rfl⟩
 obtain ⟨s2, hs2⟩ : ∃ s : ByteArray, (⟨q.a.toArray⟩ : ByteArray) = s := ⟨_, rfl⟩
 obtain ⟨s3, hs3⟩ : ∃ s : ByteArray, (⟨q.b.toArray⟩ : ByteArray) = s := ⟨_, rfl⟩
 obtain ⟨tS, htS⟩ : ∃ s : ByteArray, (⟨t.n.toArray⟩ : ByteArray) = s := ⟨_, rfl⟩
 obtain ⟨ni, hni⟩ : ∃ n, q.i.length = n := ⟨_, rfl⟩
 obtain ⟨nw, hnw⟩ : ∃ n, q.w.length = n := ⟨_, rfl⟩
 obtain ⟨ng, hng⟩ : ∃ n, q.g.length = n := ⟨_, rfl⟩
 obtain ⟨n, hn⟩ : ∃ n, l.length = n := ⟨_, rfl⟩
 obtain ⟨pv, cv, rfl, hv1⟩ := id hv
 clear hv1
 obtain ⟨mt, hmt⟩ : ∃ n, t.c.length = n := ⟨_, rfl⟩
 rw [hmt] at hv
 have hcl : q.cl (.slice pi q.i.length ci) (.slice pw q.w.length cw) (.slice pg q.g.length cg) = #[.slice pi ni ci, .string s0, .string s1, .string s2, .string s3, .slice pw nw cw, .slice pg ng cg] := by unfold Qry.cl; rw [hs0, hs1, hs2, hs3, hni, hnw, hng]
 have hbig : n * 64 ≤ 140737488355328 := by
  obtain ⟨_, _, -, ⟨hb, -⟩, -⟩ := ht
  rwa [hn] at hb
 have HN : Hid (l.length = n) := hn
 have HNL : Hid (n * 64 ≤ 140737488351232) := by show _ ≤ _; rw [← hn]; exact hnl
 obtain ⟨W0, hW0, hb0, hz0, g0, g1⟩ := two_boxes2 w #[.slice pi ni ci, .string s0, .string s1, .string s2, .string s3, .slice pw nw cw, .slice pg ng cg] #[.string tS, .slice pv mt cv, .slice pr nr cr] 26 56
 have HBX : Hid (∀ V, Below W0.heap.size W0 V → Below w.heap.size w V ∧ V.rangeAt w.heap.size 0 (#[.slice pi ni ci, .string s0, .string s1, .string s2, .string s3, .slice pw nw cw, .slice pg ng cg]).toList ∧ V.rangeAt (w.heap.size + 1) 0 (#[.string tS, .slice pv mt cv, .slice pr nr cr]).toList) := fun V hV => ⟨hb0.trans (hV.mono hb0.size), fun j u hu => by rw [Nat.zero_add]; exact cell_of_row ((hV.block _ (by omega)).trans g0) (by simpa using hu), fun j u hu => by rw [Nat.zero_add]; exact cell_of_row ((hV.block _ (by omega)).trans g1) (by simpa using hu)⟩
 have HL : Hid (∀ V, Below w.heap.size w V → ListIs rTab 3 64 (fun b => b < w.heap.size) V (.slice pt n ct) l) := fun V hV => by
  have := ht.later mTab (fun b hb => hb) hV
  rwa [hn] at this
 have HV : Hid (∀ V, Below w.heap.size w V → ListIs rClm 2 24 (fun b => b < w.heap.size) V (.slice pv mt cv) t.c) := fun V hV => hv.later mClm (fun b hb => hb) hV
 have HTN : Hid (t.n.length ≤ 140737488355328 ∧ (⟨t.n.toArray⟩ : ByteArray) = tS ∧ (⟨q.t.toArray⟩ : ByteArray) = s0 ∧ (⟨q.j.toArray⟩ : ByteArray) = s1) := ⟨htn, htS, hs0, hs1⟩
 have HGA := hid hG
 have C0 := hid (lives_any W0 (hG.below hb0))
 have CB : Hid (∀ V, Below w.heap.size w V → ∀ (l2 : List Tab) p2 c2, ListIs rTab 3 64 (fun b => b < V.heap.size) V (.slice p2 l2.length c2) l2 → Calls prog 10 #[.agg #[.slice pi ni ci, .string s0, .string s1, .string s2, .string s3, .slice pw nw cw, .slice pg ng cg], .slice p2 l2.length c2] V fun e w' => OutB V.heap.size w' (bindP q l2) e ∧ Below V.heap.size V w') := fun V hV l2 p2 c2 hl2 => by
  have := bind_any (fun b => b < w.heap.size) (fun b => b < V.heap.size) pi pw pg ci cw cg q p2 c2 l2 V (h.below (fun b hb => hb) hV) (fun b hb => Nat.lt_of_lt_of_le hb hV.size) hl2 (fun b hb => hb) (hG.below hV).gw
  rwa [hcl] at this
 have CC : Hid (∀ V, Below w.heap.size w V → ∀ (l2 : List Tab) p2 c2, ListIs rTab 3 64 (fun b => b < V.heap.size) V (.slice p2 l2.length c2) l2 → Calls prog 17 #[.slice p2 l2.length c2] V fun e w' => e = .returned (.int .i64 (catP l2)) ∧ Below V.heap.size V w') := fun V hV l2 p2 c2 hl2 => cat_any (fun b => b < V.heap.size) p2 c2 l2 V hl2 (fun b hb => hb) (hG.below hV).gw
 rw [hcl, hn, htS, hmt]
 clear h ht hv htn hnl hG hs0 hs1 hs2 hs3 htS hni hnw hng hn hmt hcl g0 g1 hb0
 obtain ⟨i0, hi0, hiz, his, hib⟩ := inE_tab
 go_enter func6, ntmps6
 go_wp2_with (rw [hW0])
 refine C0.out.mono ?_
 rintro e w1 ⟨rfl, hb1⟩
 have HB1 : Hid (Below W0.heap.size W0 w1) := hb1
 clear C0 hb1 hW0
 go_wp2_with fail
 go_loopg [7, 21] n (fun gf s7 s21 wx => ∃ (i : Nat) (a : Option Addr) (cc : Nat), s7 = .slice a i cc ∧ s21 = .int .i64 i ∧ i ≤ n ∧ n ≤ i + gf ∧ Hid (Below W0.heap.size W0 wx) ∧ Hid (OwnK (fun b => b < w.heap.size) rTab 3 56 W0.heap.size wx (.slice a i cc) (l.take i)))
 case atStart => exact ⟨0, none, 0, rfl, rfl, by omega, by omega, HB1, ⟨[], World.ownsRow_nil _ _ _ _, fun j h => absurd h (by simp)⟩⟩
 case round =>
  clear HB1
  obtain ⟨i, a, cc, rfl, rfl, hi1, hgf, HB, HO⟩ := hrel
  by_cases hi : i < n
  · obtain ⟨g', rfl⟩ : ∃ g', gk = g' + 1 := ⟨gk - 1, by omega⟩
    have hil : i < l.length := by rw [HN.out]; exact hi
    have hbw := (HBX.out wr HB.out).1
    obtain ⟨b, o, hq, hKb, hc⟩ := tab_at (HL.out wr hbw) (by omega)
    subst hq
    obtain ⟨pc, kc, pr2, nr2, cr2, hrow, hcols, hlen⟩ := hc i hil
    obtain ⟨x, hx⟩ : ∃ x, l[i] = x := ⟨_, rfl⟩
    rw [hx] at hrow hcols hlen
    obtain ⟨xS, hxS⟩ : ∃ y : ByteArray, (⟨x.n.toArray⟩ : ByteArray) = y := ⟨_, rfl⟩
    obtain ⟨m, hm⟩ : ∃ m, x.c.length = m := ⟨_, rfl⟩
    have hcols' := hcols
    rw [hxS, hm] at hrow
    rw [hm] at hcols'
    have HROW := hid hrow
    obtain ⟨WA, hWA, hth, V1, hV1, hgQ, hbV⟩ := box_any wr 56 #[.string ⟨#[]⟩, .slice none 0 0, .slice none 0 0] [.string xS, .slice pc m kc, .slice pr2 nr2 cr2] rfl
    have HTH := hid hth
    have HV1 : Hid (WA.setCells wr.heap.size 0 (#[.string xS, .slice pc m kc, .slice pr2 nr2 cr2] : Array Value).toList = V1) := hV1
    have HON : Hid ((#[.string xS, .slice pc m kc, .slice pr2 nr2 cr2] : Array Value).all (·.oneCell') = true) := by show _ = _; simp [Value.oneCell']
    have d0 := cell_of_row (k := 0) (v := .string xS) hgQ rfl
    have d1 := cell_of_row (k := 1) (v := .slice pc m kc) hgQ rfl
    have HBV : Hid (Below W0.heap.size W0 V1) := HB.out.trans (hbV.mono HB.out.size)
    have hwW : w.heap.size ≤ W0.heap.size := by omega
    have hO1 : OwnK (fun b => b < w.heap.size) rTab 3 56 W0.heap.size V1 (.slice a i cc) (l.take i) := by
     obtain ⟨cells, ho, hr⟩ := HO.out
     exact ⟨cells, owns_kept ho (fun g hg => hbV.block g (ho.lt g hg).2), fun j hj => mTab _ _ _ _ _ _ (fun _ h => h) (kept_of (fun b hb => Nat.lt_of_lt_of_le hb hbw.size) hbV) (hr j hj)⟩
    have hlt : (l.take i).length = i := by rw [List.length_take, HN.out]; omega
    have hrel2 : rTab (fun b => b < w.heap.size) V1 [.string xS, .slice pc m kc, .slice none 0 0] x := ⟨.slice pc m kc, none, 0, 0, by rw [hxS], hcols'.mono mClm (fun _ h => h) (kept_of (fun b hb => Nat.lt_of_lt_of_le hb hbw.size) hbV), hlen⟩
    obtain ⟨v', X3, e3, ho3, hk3⟩ := OwnK.push mTab (bytes := 64) (ts := 27) underlying27 hi0 hiz his hib rfl (by omega) hO1 HBV.out.size (cs := [.string xS, .slice pc m kc, .slice none 0 0]) (x := x) rfl (by intro c hc; simp at hc; rcases hc with rfl | rfl | rfl <;> rfl) (fun b hb => ⟨by have := HBV.out.size; omega, by
     obtain ⟨cells, ho, _⟩ := hO1
     intro e
     have := (ho.lt b e).1
     omega⟩) hrel2 (by omega) (by unfold maxLen; omega)
    have hev : ∃ a3 c3, v' = .slice a3 (i + 1) c3 := by
     obtain ⟨cells, ho, _⟩ := ho3
     obtain ⟨a3, c3, ev⟩ := owns_slice ho
     exact ⟨a3, c3, by rw [ev, List.length_append, hlt]; rfl⟩
    obtain ⟨a3, c3, rfl⟩ := hev
    have HE3 := hid e3
    have HB3 : Hid (Below W0.heap.size W0 X3) := by
     refine ⟨hk3.os.trans HBV.out.os, hk3.tape.trans HBV.out.tape, hk3.output.trans HBV.out.output, Nat.le_trans HBV.out.size hk3.size, fun b hb => (hk3.block b ⟨by have := HBV.out.size; omega, ?_⟩).trans (HBV.out.block b hb)⟩
     obtain ⟨cells, ho, _⟩ := hO1
     intro e
     have := (ho.lt b e).1
     omega
    have HO3 : Hid (OwnK (fun b => b < w.heap.size) rTab 3 56 W0.heap.size X3 (.slice a3 (i + 1) c3) (l.take (i + 1))) := by
     have e4 : l.take (i + 1) = l.take i ++ [x] := by rw [List.take_succ_eq_append_getElem hil, hx]
     show OwnK _ _ _ _ _ _ _ _
     rw [e4]
     exact ho3
    have z0 : (0 : Int) ≤ (i : Int) := by omega
    have z1 : (i : Int) < (n : Int) := by omega
    clear hc hil hrow hcols hcols' hlen hx hxS hm hth hV1 hgQ hbV hO1 hlt hrel2 e3 ho3 hk3 HB HO hbw hwW
    go_wp2_with (first | (refine wpList_load_mid rfl 56 _ rfl b (o + i * 3) rfl _ _ HROW.out underlying56 rfl sz_tab ?_) | (refine wpList_store_mid rfl 56 _ _ rfl wr.heap.size 0 #[.string xS, .slice pc m kc, .slice pr2 nr2 cr2] rfl rfl HTH.out sz_tab HON.out ?_; rw [show WA.setCells wr.heap.size 0 (#[.string xS, .slice pc m kc, .slice pr2 nr2 cr2] : Array Value).toList = V1 from HV1.out]) | (at_builtin; refine Lib.wpList_append_run _ rfl _ _ _ _ rfl (.slice a i cc) (.slice (some ⟨V1.heap.size, 0, none⟩) 1 1) rfl rfl _ _ HE3.out ?_))
    go_roundg g'
    case measure => omega
    case rel => exact ⟨i + 1, a3, c3, rfl, by go_num, by omega, by omega, HB3, HO3⟩
  · have z1 : ¬ (i : Int) < (n : Int) := by omega
    obtain rfl : i = n := by omega
    obtain ⟨w2, hw2⟩ : ∃ V, V = wr := ⟨_, rfl⟩
    subst hw2
    have hbw := (HBX.out w2 HB.out).1
    have hbare : ListIs rTab 3 64 (fun b => b < w2.heap.size) w2 (.slice a i cc) l := by
     have := HO.out.list0 mTab (bytes := 64) (fun b hb => Nat.lt_of_lt_of_le hb hbw.size) (by rw [List.length_take, HN.out]; omega)
     rwa [List.take_of_length_le (by rw [HN.out]; exact Nat.le_refl _)] at this
    have HBARE : Hid (∀ V, Below w2.heap.size w2 V → ListIs rTab 3 64 (fun b => b < V.heap.size) V (.slice a i cc) l) := fun V hV => hbare.mono mTab (fun b hb => Nat.lt_of_lt_of_le hb hV.size) (kept_of (fun b hb => hb) hV)
    have HQ2 := hid (HBX.out w2 HB.out).2.1
    have CX : Hid (Calls prog 10 #[.agg #[.slice pi ni ci, .string s0, .string s1, .string s2, .string s3, .slice pw nw cw, .slice pg ng cg], .slice pt i ct] w2 fun e w' => OutB w2.heap.size w' (bindP q l) e ∧ Below w2.heap.size w2 w') := by
     have hl := (HL.out w2 hbw).mono mTab (K2 := fun b => b < w2.heap.size) (fun b hb => Nat.lt_of_lt_of_le hb hbw.size) ⟨rfl, rfl, rfl, Nat.le_refl _, fun _ _ => rfl⟩
     have := CB.out w2 hbw l pt ct (by rw [HN.out]; exact hl)
     rwa [HN.out] at this
    clear hbare hbw HO
    go_wp2_with (refine wpList_load_mid rfl 26 _ rfl w.heap.size 0 rfl _ _ HQ2.out underlying26 rfl sz_qry ?_)
    obtain ⟨bB, hbB⟩ : ∃ b, (resB (bindP q l)).1 = b := ⟨_, rfl⟩
    obtain ⟨er, her⟩ : ∃ x, (resB (bindP q l)).2 = x := ⟨_, rfl⟩
    have HRS : Hid ((resB (bindP q l)).1 = bB ∧ (resB (bindP q l)).2 = er) := ⟨hbB, her⟩
    obtain ⟨t0, ht0⟩ : ∃ s : ByteArray, (⟨bB.t.toArray⟩ : ByteArray) = s := ⟨_, rfl⟩
    obtain ⟨t1, ht1⟩ : ∃ s : ByteArray, (⟨bB.j.toArray⟩ : ByteArray) = s := ⟨_, rfl⟩
    obtain ⟨bd, hbd⟩ : ∃ x, bB.d = x := ⟨_, rfl⟩
    obtain ⟨ba, hba⟩ : ∃ x, bB.a = x := ⟨_, rfl⟩
    obtain ⟨bb, hbb⟩ : ∃ x, bB.b = x := ⟨_, rfl⟩
    obtain ⟨br, hbr⟩ : ∃ x, bB.r = x := ⟨_, rfl⟩
    obtain ⟨n1, hn1⟩ : ∃ x, bB.w.length = x := ⟨_, rfl⟩
    obtain ⟨n2, hn2⟩ : ∃ x, bB.g.length = x := ⟨_, rfl⟩
    obtain ⟨n3, hn3⟩ : ∃ x, bB.i.length = x := ⟨_, rfl⟩
    obtain ⟨n4, hn4⟩ : ∃ x, bB.n.length = x := ⟨_, rfl⟩
    obtain ⟨n5, hn5⟩ : ∃ x, bB.k.length = x := ⟨_, rfl⟩
    have HNM : Hid (∀ pw pg pi pn pk cw cg ci cn ck, (bndC bB pw pg pi pn pk cw cg ci cn ck).toArray = #[.string t0, .string t1, .int .i64 bd, .int .i64 ba, .int .i64 bb, .slice pw n1 cw, .slice pg n2 cg, .slice pi n3 ci, .bool br, .slice pn n4 cn, .slice pk n5 ck]) := fun pw pg pi pn pk cw cg ci cn ck => by unfold bndC; rw [ht0, ht1, hbd, hba, hbb, hbr, hn1, hn2, hn3, hn4, hn5]
    clear hbB her ht0 ht1 hbd hba hbb hbr hn1 hn2 hn3 hn4 hn5
    refine CX.out.mono ?_
    rintro e w3 ⟨⟨v, rfl, hbi⟩, hb3⟩
    obtain ⟨pw_a, pg_a, pi_a, pn_a, pk_a, cw_a, cg_a, ci_a, cn_a, ck_a, rfl, h1, h2, h3, h4, h5⟩ := hbi
    rw [HRS.out.1] at h1 h2 h3 h4 h5
    rw [HRS.out.1, HRS.out.2, HNM.out]
    obtain ⟨WA, hWA, hth, V3, hV3, hgQ, hbV⟩ := box_any w3 32 #[.string ⟨#[]⟩, .string ⟨#[]⟩, .int .i64 0, .int .i64 0, .int .i64 0, .slice none 0 0, .slice none 0 0, .slice none 0 0, .bool false, .slice none 0 0, .slice none 0 0] [.string t0, .string t1, .int .i64 bd, .int .i64 ba, .int .i64 bb, .slice pw_a n1 cw_a, .slice pg_a n2 cg_a, .slice pi_a n3 ci_a, .bool br, .slice pn_a n4 cn_a, .slice pk_a n5 ck_a] rfl
    have HTH : Hid (WA.there w3.heap.size 0 11) := hth
    have HV3 : Hid (WA.setCells w3.heap.size 0 (#[.string t0, .string t1, .int .i64 bd, .int .i64 ba, .int .i64 bb, .slice pw_a n1 cw_a, .slice pg_a n2 cg_a, .slice pi_a n3 ci_a, .bool br, .slice pn_a n4 cn_a, .slice pk_a n5 ck_a] : Array Value).toList = V3) := hV3
    have HON : Hid ((#[.string t0, .string t1, .int .i64 bd, .int .i64 ba, .int .i64 bb, .slice pw_a n1 cw_a, .slice pg_a n2 cg_a, .slice pi_a n3 ci_a, .bool br, .slice pn_a n4 cn_a, .slice pk_a n5 ck_a] : Array Value).all (·.oneCell') = true) := by show _ = _; simp [Value.oneCell']
    have HPa : Hid (Below w2.heap.size w2 V3) := hb3.trans (hbV.mono hb3.size)
    have HLa : Hid (∀ X, Below V3.heap.size V3 X → X.rangeAt w3.heap.size 0 (#[.string t0, .string t1, .int .i64 bd, .int .i64 ba, .int .i64 bb, .slice pw_a n1 cw_a, .slice pg_a n2 cg_a, .slice pi_a n3 ci_a, .bool br, .slice pn_a n4 cn_a, .slice pk_a n5 ck_a]).toList ∧ ListIs rStpW 3 32 (fun b => b < w3.heap.size) X (.slice pw_a bB.w.length cw_a) bB.w ∧ ListIs rInt 1 8 (fun b => b < w3.heap.size) X (.slice pg_a bB.g.length cg_a) bB.g ∧ ListIs rItmW 2 32 (fun b => b < w3.heap.size) X (.slice pi_a bB.i.length ci_a) bB.i ∧ ListIs rStrW 1 16 (fun b => b < w3.heap.size) X (.slice pn_a bB.n.length cn_a) bB.n ∧ ListIs rKnd 1 1 (fun b => b < w3.heap.size) X (.slice pk_a bB.k.length ck_a) bB.k ∧ w3.heap.size ≤ X.heap.size) := fun X hX => by
     have hlX : w3.heap.size < V3.heap.size := (Array.getElem?_eq_some_iff.1 hgQ).1
     have hwX : Below w3.heap.size w3 X := hbV.trans (hX.mono hbV.size)
     have hk : ∀ b, From w2.heap.size w3 b → b < w3.heap.size := fun b hb => hb.2
     have hkk := kept_of (K := From w2.heap.size w3) (fun b hb => hb.2) hwX
     exact ⟨fun j u hu => by rw [Nat.zero_add]; exact cell_of_row ((hX.block _ hlX).trans hgQ) (by simpa using hu), h1.mono mStpW hk hkk, h2.mono mInt hk hkk, h3.mono mItmW hk hkk, h4.mono mStrW hk hkk, h5.mono mKnd hk hkk, hwX.size⟩
    clear CX h1 h2 h3 h4 h5 hth hV3 hgQ hbV hb3
    have HW3 : Hid (Below w.heap.size w V3) := (HBX.out w2 HB.out).1.trans (HPa.out.mono (HBX.out w2 HB.out).1.size)
    have HQ3 : Hid (V3.rangeAt w.heap.size 0 (#[.slice pi ni ci, .string s0, .string s1, .string s2, .string s3, .slice pw nw cw, .slice pg ng cg]).toList) := (HBX.out V3 (HB.out.trans (HPa.out.mono HB.out.size))).2.1
    have CX : Hid (Calls prog 10 #[.agg #[.slice pi ni ci, .string s0, .string s1, .string s2, .string s3, .slice pw nw cw, .slice pg ng cg], .slice a i cc] V3 fun e w' => OutB V3.heap.size w' (bindP q l) e ∧ Below V3.heap.size V3 w') := by
     have := CB.out V3 HW3.out l a cc (by rw [HN.out]; exact HBARE.out V3 HPa.out)
     rwa [HN.out] at this
    clear HQ2
    go_wp2_with (first | (refine wpList_store_mid rfl 32 _ _ rfl w3.heap.size 0 #[.string t0, .string t1, .int .i64 bd, .int .i64 ba, .int .i64 bb, .slice pw_a n1 cw_a, .slice pg_a n2 cg_a, .slice pi_a n3 ci_a, .bool br, .slice pn_a n4 cn_a, .slice pk_a n5 ck_a] rfl rfl HTH.out sz_bnd HON.out ?_; rw [show WA.setCells w3.heap.size 0 (#[.string t0, .string t1, .int .i64 bd, .int .i64 ba, .int .i64 bb, .slice pw_a n1 cw_a, .slice pg_a n2 cg_a, .slice pi_a n3 ci_a, .bool br, .slice pn_a n4 cn_a, .slice pk_a n5 ck_a] : Array Value).toList = V3 from HV3.out]) | (refine wpList_load_mid rfl 26 _ rfl w.heap.size 0 rfl _ _ HQ3.out underlying26 rfl sz_qry ?_))
    clear HTH HV3 HON hWA HQ3
    refine CX.out.mono ?_
    rintro e w4 ⟨⟨v, rfl, hbi⟩, hb3⟩
    obtain ⟨pw_b, pg_b, pi_b, pn_b, pk_b, cw_b, cg_b, ci_b, cn_b, ck_b, rfl, h1, h2, h3, h4, h5⟩ := hbi
    rw [HRS.out.1] at h1 h2 h3 h4 h5
    rw [HRS.out.1, HRS.out.2, HNM.out]
    obtain ⟨WA, hWA, hth, V4, hV3, hgQ, hbV⟩ := box_any w4 32 #[.string ⟨#[]⟩, .string ⟨#[]⟩, .int .i64 0, .int .i64 0, .int .i64 0, .slice none 0 0, .slice none 0 0, .slice none 0 0, .bool false, .slice none 0 0, .slice none 0 0] [.string t0, .string t1, .int .i64 bd, .int .i64 ba, .int .i64 bb, .slice pw_b n1 cw_b, .slice pg_b n2 cg_b, .slice pi_b n3 ci_b, .bool br, .slice pn_b n4 cn_b, .slice pk_b n5 ck_b] rfl
    have HTH : Hid (WA.there w4.heap.size 0 11) := hth
    have HV3 : Hid (WA.setCells w4.heap.size 0 (#[.string t0, .string t1, .int .i64 bd, .int .i64 ba, .int .i64 bb, .slice pw_b n1 cw_b, .slice pg_b n2 cg_b, .slice pi_b n3 ci_b, .bool br, .slice pn_b n4 cn_b, .slice pk_b n5 ck_b] : Array Value).toList = V4) := hV3
    have HON : Hid ((#[.string t0, .string t1, .int .i64 bd, .int .i64 ba, .int .i64 bb, .slice pw_b n1 cw_b, .slice pg_b n2 cg_b, .slice pi_b n3 ci_b, .bool br, .slice pn_b n4 cn_b, .slice pk_b n5 ck_b] : Array Value).all (·.oneCell') = true) := by show _ = _; simp [Value.oneCell']
    have HPb : Hid (Below V3.heap.size V3 V4) := hb3.trans (hbV.mono hb3.size)
    have HLb : Hid (∀ X, Below V4.heap.size V4 X → X.rangeAt w4.heap.size 0 (#[.string t0, .string t1, .int .i64 bd, .int .i64 ba, .int .i64 bb, .slice pw_b n1 cw_b, .slice pg_b n2 cg_b, .slice pi_b n3 ci_b, .bool br, .slice pn_b n4 cn_b, .slice pk_b n5 ck_b]).toList ∧ ListIs rStpW 3 32 (fun b => b < w4.heap.size) X (.slice pw_b bB.w.length cw_b) bB.w ∧ ListIs rInt 1 8 (fun b => b < w4.heap.size) X (.slice pg_b bB.g.length cg_b) bB.g ∧ ListIs rItmW 2 32 (fun b => b < w4.heap.size) X (.slice pi_b bB.i.length ci_b) bB.i ∧ ListIs rStrW 1 16 (fun b => b < w4.heap.size) X (.slice pn_b bB.n.length cn_b) bB.n ∧ ListIs rKnd 1 1 (fun b => b < w4.heap.size) X (.slice pk_b bB.k.length ck_b) bB.k ∧ w4.heap.size ≤ X.heap.size) := fun X hX => by
     have hlX : w4.heap.size < V4.heap.size := (Array.getElem?_eq_some_iff.1 hgQ).1
     have hwX : Below w4.heap.size w4 X := hbV.trans (hX.mono hbV.size)
     have hk : ∀ b, From V3.heap.size w4 b → b < w4.heap.size := fun b hb => hb.2
     have hkk := kept_of (K := From V3.heap.size w4) (fun b hb => hb.2) hwX
     exact ⟨fun j u hu => by rw [Nat.zero_add]; exact cell_of_row ((hX.block _ hlX).trans hgQ) (by simpa using hu), h1.mono mStpW hk hkk, h2.mono mInt hk hkk, h3.mono mItmW hk hkk, h4.mono mStrW hk hkk, h5.mono mKnd hk hkk, hwX.size⟩
    clear CX h1 h2 h3 h4 h5 hth hV3 hgQ hbV hb3
    have HW4 : Hid (Below w.heap.size w V4) := HW3.out.trans (HPb.out.mono HW3.out.size)
    have CS : Hid (Calls prog 11 #[.agg #[.string t0, .string t1, .int .i64 bd, .int .i64 ba, .int .i64 bb, .slice pw_a n1 cw_a, .slice pg_a n2 cg_a, .slice pi_a n3 ci_a, .bool br, .slice pn_a n4 cn_a, .slice pk_a n5 ck_a], .agg #[.string t0, .string t1, .int .i64 bd, .int .i64 ba, .int .i64 bb, .slice pw_b n1 cw_b, .slice pg_b n2 cg_b, .slice pi_b n3 ci_b, .bool br, .slice pn_b n4 cn_b, .slice pk_b n5 ck_b]] V4 fun e w' => e = .returned (.bool true) ∧ Below V4.heap.size V4 w') := by
     obtain ⟨_, x1, x2, x3, x4, x5, x6⟩ := HLa.out V4 HPb.out
     obtain ⟨_, y1, y2, y3, y4, y5, y6⟩ := HLb.out V4 (Below.refl _ _)
     have := same_eqB _ _ bB pw_a pg_a pi_a pn_a pk_a pw_b pg_b pi_b pn_b pk_b cw_a cg_a ci_a cn_a ck_a cw_b cg_b ci_b cn_b ck_b V4 x1 x2 x3 x4 x5 y1 y2 y3 y4 y5 (fun b hb => Nat.lt_of_lt_of_le hb x6) (fun b hb => Nat.lt_of_lt_of_le hb y6)
     rwa [HNM.out, HNM.out] at this
    have HRa := hid (HLa.out V4 HPb.out).1
    have HRb := hid (HLb.out V4 (Below.refl _ _)).1
    go_wp2_with (first | (refine wpList_store_mid rfl 32 _ _ rfl w4.heap.size 0 #[.string t0, .string t1, .int .i64 bd, .int .i64 ba, .int .i64 bb, .slice pw_b n1 cw_b, .slice pg_b n2 cg_b, .slice pi_b n3 ci_b, .bool br, .slice pn_b n4 cn_b, .slice pk_b n5 ck_b] rfl rfl HTH.out sz_bnd HON.out ?_; rw [show WA.setCells w4.heap.size 0 (#[.string t0, .string t1, .int .i64 bd, .int .i64 ba, .int .i64 bb, .slice pw_b n1 cw_b, .slice pg_b n2 cg_b, .slice pi_b n3 ci_b, .bool br, .slice pn_b n4 cn_b, .slice pk_b n5 ck_b] : Array Value).toList = V4 from HV3.out]) | (refine wpList_load_mid rfl 32 _ rfl w3.heap.size 0 rfl _ _ HRa.out underlying32 rfl sz_bnd ?_) | (refine wpList_load_mid rfl 32 _ rfl w4.heap.size 0 rfl _ _ HRb.out underlying32 rfl sz_bnd ?_))
    refine CS.out.mono ?_
    rintro e w5 ⟨rfl, hb5⟩
    have HW5 : Hid (Below w.heap.size w w5) := HW4.out.trans (hb5.mono HW4.out.size)
    have HP5 : Hid (Below V4.heap.size V4 w5) := hb5
    obtain ⟨y, hy⟩ : ∃ y, catP l = y := ⟨_, rfl⟩
    have HY := hid hy
    have CD : Hid (Calls prog 17 #[.slice pt i ct] w5 fun e w' => e = .returned (.int .i64 y) ∧ Below w5.heap.size w5 w') := by
     have hl := (HL.out w5 HW5.out).mono mTab (K2 := fun b => b < w5.heap.size) (fun b hb => Nat.lt_of_lt_of_le hb HW5.out.size) ⟨rfl, rfl, rfl, Nat.le_refl _, fun _ _ => rfl⟩
     have := CC.out w5 HW5.out l pt ct (by rw [HN.out]; exact hl)
     rwa [HN.out, hy] at this
    have ee : (er != er) = false := by simp
    have yy : (y != y) = false := by simp
    clear CS HTH HV3 HON hWA HRa HRb hb5 hy
    go_wp2_with fail
    refine CD.out.mono ?_
    rintro e w6 ⟨rfl, hb6⟩
    have HP6 : Hid (Below V4.heap.size V4 w6) := HP5.out.trans (hb6.mono HP5.out.size)
    have HW6 : Hid (Below w.heap.size w w6) := HW5.out.trans (hb6.mono HW5.out.size)
    have HP26 : Hid (Below w2.heap.size w2 w6) := HPa.out.trans ((HPb.out.trans (HP6.out.mono HPb.out.size)).mono HPa.out.size)
    have CD2 : Hid (Calls prog 17 #[.slice a i cc] w6 fun e w' => e = .returned (.int .i64 y) ∧ Below w6.heap.size w6 w') := by
     have := CC.out w6 HW6.out l a cc (by rw [HN.out]; exact HBARE.out w6 HP26.out)
     rwa [HN.out, HY.out] at this
    clear CD hb6 HP5 HW5
    go_wp2_with fail
    refine CD2.out.mono ?_
    rintro e w7 ⟨rfl, hb7⟩
    have HP7 : Hid (Below V4.heap.size V4 w7) := HP6.out.trans (hb7.mono HP6.out.size)
    have HW7 : Hid (Below w.heap.size w w7) := HW6.out.trans (hb7.mono HW6.out.size)
    have HP27 : Hid (Below w2.heap.size w2 w7) := HP26.out.trans (hb7.mono HP26.out.size)
    clear CD2 hb7 HP6 HW6 HP26
    go_wp2_with fail
    obtain ⟨D, hD⟩ : ∃ D, w7.drew = D := ⟨_, rfl⟩
    have hbD : Below w7.heap.size w7 D := by rw [← hD]; exact (Below.refl _ _).drew
    have HWD : Hid (Below w.heap.size w D) := HW7.out.trans (hbD.mono HW7.out.size)
    have HPD : Hid (Below V4.heap.size V4 D) := HP7.out.trans (hbD.mono HP7.out.size)
    have HP2D : Hid (Below w2.heap.size w2 D) := HP27.out.trans (hbD.mono HP27.out.size)
    have H0D : Hid (Below W0.heap.size W0 D) := HB.out.trans (HP2D.out.mono HB.out.size)
    have HSALL : Hid (∀ V, Below D.heap.size D V → V.rangeAt (w.heap.size + 1) 0 (#[.string tS, .slice pv mt cv, .slice pr nr cr]).toList) := fun V hV => (HBX.out V (H0D.out.trans (hV.mono H0D.out.size))).2.2
    have HSD := hid (HSALL.out D (Below.refl _ _))
    have HBD := hid (HBARE.out D HP2D.out)
    have HRT : Hid (∀ V, Below D.heap.size D V → rTab (fun b => b < D.heap.size) V [.string tS, .slice pv mt cv, .slice pr nr cr] t) := fun V hV => ⟨.slice pv mt cv, pr, nr, cr, by rw [HTN.out.2.1], (HV.out V (HWD.out.trans (hV.mono HWD.out.size))).mono mClm (fun b hb => Nat.lt_of_lt_of_le hb HWD.out.size) ⟨rfl, rfl, rfl, Nat.le_refl _, fun _ _ => rfl⟩, HTN.out.1⟩
    have hnb : (i + 1) * 64 ≤ 140737488355328 := by have := HNL.out; omega
    clear HW7 HP7 HP27 hbD
    refine wp_region_held_drew (S := fun V => V.rangeAt (w.heap.size + 1) 0 (#[.string tS, .slice pv mt cv, .slice pr nr cr]).toList) (by kernel_rfl) (by rw [hD]; exact HSD.out) (fun hHeld => ?_)
    refine tk 1 (.slice a i cc) rfl (.inl ⟨by rfl, fun W hW => by go_simp⟩) hHeld ?_
    refine tk 3 (.agg #[.string tS, .slice pv mt cv, .slice pr nr cr]) rfl (yieldsIf_load_mid (by rfl) 56 (.tmp 5) rfl (w.heap.size + 1) (0) rfl (#[.string tS, .slice pv mt cv, .slice pr nr cr]).toList _ (fun W hW => hW) underlying56 rfl sz_tab) hHeld ?_
    simp only [Act.put, List.getElem_toArray, List.getElem_cons_zero, List.getElem_cons_succ, List.setIfInBounds_toArray, List.set_cons_zero, List.set_cons_succ]
    rw [hD] at hHeld ⊢
    clear hD
    refine wpAnyH_ready (rs := [0, 4]) (by kernel_rfl) (by simp) ?_
    refine AllReadyH.cons rfl (fun K' hK => ?_) (AllReadyH.cons rfl (fun K' hK => ?_) AllReadyH.nil)
    · rw [if_pos (by rfl)]
      go_simp
      obtain ⟨DA, hDA⟩ : ∃ V, D.alloc (.cells #[] 56) = V := ⟨_, rfl⟩
      have hgDA : DA.heap[D.heap.size]? = some (.cells #[] 56 (0, 0)) := by rw [← hDA]; exact heap_alloc_new _ _
      have hbDA : Below D.heap.size D DA := by rw [← hDA]; exact below_alloc _ _
      have hsDA : DA.heap.size = D.heap.size + 1 := by rw [← hDA]; simp
      rw [hDA]
      have HDDA : Hid (Below D.heap.size D DA) := hbDA
      have HSDA := hid (HSALL.out DA HDDA.out)
      first | refine hK.out _ _ HSDA.out (fun hHeld => ?_) | refine hK _ _ HSDA.out (fun hHeld => ?_)
      clear hK K'
      have HZDA := hid hsDA
      clear hDA hsDA
      refine wpAnyH_ready (rs := [2, 4]) (by kernel_rfl) (by simp) ?_
      refine AllReadyH.cons rfl (fun K' hK => ?_) (AllReadyH.cons rfl (fun K' hK => ?_) AllReadyH.nil)
      · rw [if_pos (by rfl)]
        obtain ⟨p2, c2, X2, e2, ho2, hk2, hv2⟩ := app_bare (fun b => b < D.heap.size) DA (D.heap.size) hgDA a i cc l HN.out (HBD.out.later mTab (fun b hb => hb) HDDA.out) (fun b hb => ⟨by have := HDDA.out.size; omega, by have := HZDA.out; omega⟩)
        refine wp_append_run (.tmp 62) (.tmp 63) 27 27 rfl (.slice (some ⟨D.heap.size, 0, none⟩) 0 0) (.slice a i cc) rfl rfl _ _ e2 ?_
        simp only [Act.put, List.getElem_toArray, List.getElem_cons_zero, List.getElem_cons_succ, List.setIfInBounds_toArray, List.set_cons_zero, List.set_cons_succ]
        have HDX2 : Hid (Below D.heap.size D X2) := below_kept HDDA.out hk2 (fun b hb => ⟨by have := HDDA.out.size; omega, by have := HZDA.out; omega⟩)
        have HOL : Hid (∀ g', (Value.slice p2 i c2).ownBlock = some g' → D.heap.size ≤ g' ∧ g' < X2.heap.size ∧ (g' = D.heap.size ∨ g' = DA.heap.size)) := fun g' e => ⟨by have := HZDA.out; rcases hv2 g' e with h | h <;> omega, by obtain ⟨cells, h1, _⟩ := ho2; exact (h1.lt g' e).2, hv2 g' e⟩
        have HK2 := hid hk2
        have HSX2 := hid (HSALL.out X2 HDX2.out)
        first | refine hK.out _ _ HSX2.out (fun hHeld => ?_) | refine hK _ _ HSX2.out (fun hHeld => ?_)
        clear hK K' e2 hk2 hv2
        refine wpAnyH_ready (rs := [4]) (by kernel_rfl) (by simp) ?_
        refine AllReadyH.cons rfl (fun K' hK => ?_) AllReadyH.nil
        rw [if_pos (by rfl)]
        go_simp
        obtain ⟨DR, hDR⟩ : ∃ V, X2.alloc (.cells #[.string tS, .slice pv mt cv, .slice pr nr cr] 56) = V := ⟨_, rfl⟩
        have hgDR : DR.heap[X2.heap.size]? = some (.cells #[.string tS, .slice pv mt cv, .slice pr nr cr] 56 (0, 0)) := by rw [← hDR]; exact heap_alloc_new _ _
        have hbDR : Below X2.heap.size X2 DR := by rw [← hDR]; exact below_alloc _ _
        have hsDR : DR.heap.size = X2.heap.size + 1 := by rw [← hDR]; simp
        rw [hDR]
        have HDDR : Hid (Below D.heap.size D DR) := HDX2.out.trans (hbDR.mono HDX2.out.size)
        have HSDR := hid (HSALL.out DR HDDR.out)
        first | refine hK.out _ _ HSDR.out (fun hHeld => ?_) | refine hK _ _ HSDR.out (fun hHeld => ?_)
        clear hK K'
        have HZDR := hid hsDR
        clear hDR hsDR
        have ho3 : OwnK (fun b => b < D.heap.size) rTab 3 56 0 DR (.slice p2 i c2) l := ho2.kept mTab ((kept_of (fun b hb => hb) hbDR).less fun b hb => by
         show b < _
         rcases hb with hb | hb
         · have := HDX2.out.size; omega
         · exact (HOL.out b hb).2.1)
        refine wpAnyH_ready (rs := [5]) (by kernel_rfl) (by simp) ?_
        refine AllReadyH.cons rfl (fun K' hK => ?_) AllReadyH.nil
        rw [if_pos (by rfl)]
        obtain ⟨p4, c4, X4, e4, hl4, hk4⟩ := app_row (fun b => b < D.heap.size) DR (X2.heap.size) tS (.slice pv mt cv) pr nr cr t hgDR p2 i c2 l HN.out ho3 (fun e => Nat.lt_irrefl _ (HOL.out _ e).2.1) (fun b hb => ⟨by have := HDDR.out.size; omega, fun e => by have := (HOL.out _ e).1; omega⟩) (HRT.out DR HDDR.out) hnb
        refine wp_append_run (.tmp 64) (.tmp 66) 27 27 rfl (.slice p2 i c2) (.slice (some ⟨X2.heap.size, 0, none⟩) 1 1) rfl rfl _ _ e4 ?_
        simp only [Act.put, List.getElem_toArray, List.getElem_cons_zero, List.getElem_cons_succ, List.setIfInBounds_toArray, List.set_cons_zero, List.set_cons_succ]
        have HDX4 : Hid (Below D.heap.size D X4) := below_kept HDDR.out hk4 (fun b hb => ⟨by have := HDDR.out.size; omega, fun e => by have := (HOL.out _ e).1; omega⟩)
        have HSX4 := hid (HSALL.out X4 HDX4.out)
        first | refine hK.out _ _ HSX4.out (fun hHeld => ?_) | refine hK _ _ HSX4.out (fun hHeld => ?_)
        clear hK K' e4 hk4
        refine wpAnyH_ready (rs := [6]) (by kernel_rfl) (by simp) ?_
        refine AllReadyH.cons rfl (fun K' hK => ?_) AllReadyH.nil
        rw [if_pos (by rfl)]
        go_simp
        first | refine hK.out _ _ HSX4.out (fun hHeld => ?_) | refine hK _ _ HSX4.out (fun hHeld => ?_)
        clear hK K'
        refine wpAnyH_done (by kernel_rfl) ?_ _
        have HL4 : Hid (ListIs rTab 3 64 (fun b => b < X4.heap.size) X4 (.slice p4 (i + 1) c4) (l ++ [t])) := hl4
        have HW9 : Hid (Below w.heap.size w X4) := HWD.out.trans (HDX4.out.mono HWD.out.size)
        have HP9 : Hid (Below V4.heap.size V4 X4) := HPD.out.trans (HDX4.out.mono HPD.out.size)
        have H09 : Hid (Below W0.heap.size W0 X4) := H0D.out.trans (HDX4.out.mono H0D.out.size)
        have HRQ := hid (HBX.out X4 H09.out).2.1
        have x1 : X4.cell? ⟨w.heap.size, 1, none⟩ = some (.string s0) := HRQ.out 1 _ rfl
        have x2 : X4.cell? ⟨w.heap.size, 2, none⟩ = some (.string s1) := HRQ.out 2 _ rfl
        have x3 : X4.cell? ⟨w.heap.size + 1, 0, none⟩ = some (.string tS) := (HBX.out X4 H09.out).2.2 0 _ rfl
        have HLN : Hid ((l ++ [t]).length = i + 1) := by show _ = _; rw [List.length_append, HN.out]; rfl
        have CM : Hid (Calls prog 17 #[.slice p4 (i + 1) c4] X4 fun e w' => e = .returned (.int .i64 (catP (l ++ [t]))) ∧ Below X4.heap.size X4 w') := by
         have := CC.out X4 HW9.out (l ++ [t]) p4 c4 (by rw [HLN.out]; exact HL4.out)
         rwa [HLN.out] at this
        clear hl4
        obtain ⟨E1, hE1⟩ : ∃ E, (tS.toList == s0.toList) = E := ⟨_, rfl⟩
        cases E1 with
        | true =>
         go_wp2_with fail
         go_ret
         exact ⟨rfl, HW9.out⟩
        | false =>
        obtain ⟨E2, hE2⟩ : ∃ E, (tS.toList == s1.toList) = E := ⟨_, rfl⟩
        cases E2 with
        | true =>
         go_wp2_with fail
         go_ret
         exact ⟨rfl, HW9.out⟩
        | false =>
        have HNE : Hid (t.n ≠ q.t ∧ t.n ≠ q.j) := by
         refine ⟨fun e => ?_, fun e => ?_⟩
         · have h1 : tS = s0 := by rw [← HTN.out.2.1, ← HTN.out.2.2.1, e]
           rw [h1] at hE1
           simp at hE1
         · have h1 : tS = s1 := by rw [← HTN.out.2.1, ← HTN.out.2.2.2, e]
           rw [h1] at hE2
           simp at hE2
        go_wp2_with fail
        refine CM.out.mono ?_
        rintro e w8 ⟨rfl, hb8⟩
        have HW8 : Hid (Below w.heap.size w w8) := HW9.out.trans (hb8.mono HW9.out.size)
        have HP8 : Hid (Below X4.heap.size X4 w8) := hb8
        obtain ⟨y2, hy2⟩ : ∃ y, catP (l ++ [t]) = y := ⟨_, rfl⟩
        rw [hy2]
        clear CM hb8 x1 x2 x3 hE1 hE2
        by_cases h0 : y2 = 0
        case neg =>
         have z0 : (y2 != 0) = true := bne_iff_ne.2 h0
         clear h0 hy2
         go_wp2_with fail
         go_ret
         exact ⟨rfl, HW8.out⟩
        subst h0
        have HBE := hid (bind_more (q := q) hy2 HNE.out.1 HNE.out.2)
        have HQ8 : Hid (w8.rangeAt w.heap.size 0 (#[.slice pi ni ci, .string s0, .string s1, .string s2, .string s3, .slice pw nw cw, .slice pg ng cg]).toList) := (HBX.out w8 (H09.out.trans (HP8.out.mono H09.out.size))).2.1
        have CX : Hid (Calls prog 10 #[.agg #[.slice pi ni ci, .string s0, .string s1, .string s2, .string s3, .slice pw nw cw, .slice pg ng cg], .slice p4 (i + 1) c4] w8 fun e w' => OutB w8.heap.size w' (bindP q l) e ∧ Below w8.heap.size w8 w') := by
         have := CB.out w8 HW8.out (l ++ [t]) p4 c4 (by rw [HLN.out]; exact HL4.out.mono mTab (fun b hb => Nat.lt_of_lt_of_le hb HP8.out.size) (kept_of (fun b hb => hb) HP8.out))
         rwa [HLN.out, HBE.out] at this
        clear hy2
        go_wp2_with (refine wpList_load_mid rfl 26 _ rfl w.heap.size 0 rfl _ _ HQ8.out underlying26 rfl sz_qry ?_)
        refine CX.out.mono ?_
        rintro e w10 ⟨⟨v, rfl, hbi⟩, hb3⟩
        obtain ⟨pw_c, pg_c, pi_c, pn_c, pk_c, cw_c, cg_c, ci_c, cn_c, ck_c, rfl, h1, h2, h3, h4, h5⟩ := hbi
        rw [HRS.out.1] at h1 h2 h3 h4 h5
        rw [HRS.out.1, HRS.out.2, HNM.out]
        obtain ⟨WA, hWA, hth, V9, hV3, hgQ, hbV⟩ := box_any w10 32 #[.string ⟨#[]⟩, .string ⟨#[]⟩, .int .i64 0, .int .i64 0, .int .i64 0, .slice none 0 0, .slice none 0 0, .slice none 0 0, .bool false, .slice none 0 0, .slice none 0 0] [.string t0, .string t1, .int .i64 bd, .int .i64 ba, .int .i64 bb, .slice pw_c n1 cw_c, .slice pg_c n2 cg_c, .slice pi_c n3 ci_c, .bool br, .slice pn_c n4 cn_c, .slice pk_c n5 ck_c] rfl
        have HTH : Hid (WA.there w10.heap.size 0 11) := hth
        have HV3 : Hid (WA.setCells w10.heap.size 0 (#[.string t0, .string t1, .int .i64 bd, .int .i64 ba, .int .i64 bb, .slice pw_c n1 cw_c, .slice pg_c n2 cg_c, .slice pi_c n3 ci_c, .bool br, .slice pn_c n4 cn_c, .slice pk_c n5 ck_c] : Array Value).toList = V9) := hV3
        have HON : Hid ((#[.string t0, .string t1, .int .i64 bd, .int .i64 ba, .int .i64 bb, .slice pw_c n1 cw_c, .slice pg_c n2 cg_c, .slice pi_c n3 ci_c, .bool br, .slice pn_c n4 cn_c, .slice pk_c n5 ck_c] : Array Value).all (·.oneCell') = true) := by show _ = _; simp [Value.oneCell']
        have HPc : Hid (Below w8.heap.size w8 V9) := hb3.trans (hbV.mono hb3.size)
        have HLc : Hid (∀ X, Below V9.heap.size V9 X → X.rangeAt w10.heap.size 0 (#[.string t0, .string t1, .int .i64 bd, .int .i64 ba, .int .i64 bb, .slice pw_c n1 cw_c, .slice pg_c n2 cg_c, .slice pi_c n3 ci_c, .bool br, .slice pn_c n4 cn_c, .slice pk_c n5 ck_c]).toList ∧ ListIs rStpW 3 32 (fun b => b < w10.heap.size) X (.slice pw_c bB.w.length cw_c) bB.w ∧ ListIs rInt 1 8 (fun b => b < w10.heap.size) X (.slice pg_c bB.g.length cg_c) bB.g ∧ ListIs rItmW 2 32 (fun b => b < w10.heap.size) X (.slice pi_c bB.i.length ci_c) bB.i ∧ ListIs rStrW 1 16 (fun b => b < w10.heap.size) X (.slice pn_c bB.n.length cn_c) bB.n ∧ ListIs rKnd 1 1 (fun b => b < w10.heap.size) X (.slice pk_c bB.k.length ck_c) bB.k ∧ w10.heap.size ≤ X.heap.size) := fun X hX => by
         have hlX : w10.heap.size < V9.heap.size := (Array.getElem?_eq_some_iff.1 hgQ).1
         have hwX : Below w10.heap.size w10 X := hbV.trans (hX.mono hbV.size)
         have hk : ∀ b, From w8.heap.size w10 b → b < w10.heap.size := fun b hb => hb.2
         have hkk := kept_of (K := From w8.heap.size w10) (fun b hb => hb.2) hwX
         exact ⟨fun j u hu => by rw [Nat.zero_add]; exact cell_of_row ((hX.block _ hlX).trans hgQ) (by simpa using hu), h1.mono mStpW hk hkk, h2.mono mInt hk hkk, h3.mono mItmW hk hkk, h4.mono mStrW hk hkk, h5.mono mKnd hk hkk, hwX.size⟩
        clear CX h1 h2 h3 h4 h5 hth hV3 hgQ hbV hb3
        have HP48 : Hid (Below V4.heap.size V4 V9) := HP9.out.trans ((HP8.out.trans (HPc.out.mono HP8.out.size)).mono HP9.out.size)
        have HW10 : Hid (Below w.heap.size w V9) := HW8.out.trans (HPc.out.mono HW8.out.size)
        have HPA9 : Hid (Below V3.heap.size V3 V9) := HPb.out.trans (HP48.out.mono HPb.out.size)
        have CS : Hid (Calls prog 11 #[.agg #[.string t0, .string t1, .int .i64 bd, .int .i64 ba, .int .i64 bb, .slice pw_a n1 cw_a, .slice pg_a n2 cg_a, .slice pi_a n3 ci_a, .bool br, .slice pn_a n4 cn_a, .slice pk_a n5 ck_a], .agg #[.string t0, .string t1, .int .i64 bd, .int .i64 ba, .int .i64 bb, .slice pw_c n1 cw_c, .slice pg_c n2 cg_c, .slice pi_c n3 ci_c, .bool br, .slice pn_c n4 cn_c, .slice pk_c n5 ck_c]] V9 fun e w' => e = .returned (.bool true) ∧ Below V9.heap.size V9 w') := by
         obtain ⟨_, x1, x2, x3, x4, x5, x6⟩ := HLa.out V9 HPA9.out
         obtain ⟨_, y1, y2, y3, y4, y5, y6⟩ := HLc.out V9 (Below.refl _ _)
         have := same_eqB _ _ bB pw_a pg_a pi_a pn_a pk_a pw_c pg_c pi_c pn_c pk_c cw_a cg_a ci_a cn_a ck_a cw_c cg_c ci_c cn_c ck_c V9 x1 x2 x3 x4 x5 y1 y2 y3 y4 y5 (fun b hb => Nat.lt_of_lt_of_le hb x6) (fun b hb => Nat.lt_of_lt_of_le hb y6)
         rwa [HNM.out, HNM.out] at this
        have HRa := hid (HLa.out V9 HPA9.out).1
        have HRc := hid (HLc.out V9 (Below.refl _ _)).1
        go_wp2_with (first | (refine wpList_store_mid rfl 32 _ _ rfl w10.heap.size 0 #[.string t0, .string t1, .int .i64 bd, .int .i64 ba, .int .i64 bb, .slice pw_c n1 cw_c, .slice pg_c n2 cg_c, .slice pi_c n3 ci_c, .bool br, .slice pn_c n4 cn_c, .slice pk_c n5 ck_c] rfl rfl HTH.out sz_bnd HON.out ?_; rw [show WA.setCells w10.heap.size 0 (#[.string t0, .string t1, .int .i64 bd, .int .i64 ba, .int .i64 bb, .slice pw_c n1 cw_c, .slice pg_c n2 cg_c, .slice pi_c n3 ci_c, .bool br, .slice pn_c n4 cn_c, .slice pk_c n5 ck_c] : Array Value).toList = V9 from HV3.out]) | (refine wpList_load_mid rfl 32 _ rfl w3.heap.size 0 rfl _ _ HRa.out underlying32 rfl sz_bnd ?_) | (refine wpList_load_mid rfl 32 _ rfl w10.heap.size 0 rfl _ _ HRc.out underlying32 rfl sz_bnd ?_))
        refine CS.out.mono ?_
        rintro e w11 ⟨rfl, hb11⟩
        have HW11 : Hid (Below w.heap.size w w11) := HW10.out.trans (hb11.mono HW10.out.size)
        have ee2 : (er == er) = true := by simp
        clear CS HTH HV3 HON hWA HRa HRc hb11
        go_wp2_with fail
        go_ret
        exact ⟨rfl, HW11.out⟩
      · rw [if_pos (by rfl)]
        go_simp
        obtain ⟨DR, hDR⟩ : ∃ V, DA.alloc (.cells #[.string tS, .slice pv mt cv, .slice pr nr cr] 56) = V := ⟨_, rfl⟩
        have hgDR : DR.heap[DA.heap.size]? = some (.cells #[.string tS, .slice pv mt cv, .slice pr nr cr] 56 (0, 0)) := by rw [← hDR]; exact heap_alloc_new _ _
        have hbDR : Below DA.heap.size DA DR := by rw [← hDR]; exact below_alloc _ _
        have hsDR : DR.heap.size = DA.heap.size + 1 := by rw [← hDR]; simp
        rw [hDR]
        have HDDR : Hid (Below D.heap.size D DR) := HDDA.out.trans (hbDR.mono HDDA.out.size)
        have HSDR := hid (HSALL.out DR HDDR.out)
        first | refine hK.out _ _ HSDR.out (fun hHeld => ?_) | refine hK _ _ HSDR.out (fun hHeld => ?_)
        clear hK K'
        have HZDR := hid hsDR
        clear hDR hsDR
        have hgE : DR.heap[D.heap.size]? = some (.cells #[] 56 (0, 0)) := (hbDR.block _ (by have := HZDA.out; omega)).trans hgDA
        refine wpAnyH_ready (rs := [2]) (by kernel_rfl) (by simp) ?_
        refine AllReadyH.cons rfl (fun K' hK => ?_) AllReadyH.nil
        rw [if_pos (by rfl)]
        obtain ⟨p2, c2, X2, e2, ho2, hk2, hv2⟩ := app_bare (fun b => b < D.heap.size) DR (D.heap.size) hgE a i cc l HN.out (HBD.out.later mTab (fun b hb => hb) HDDR.out) (fun b hb => ⟨by have := HDDR.out.size; omega, by have := HZDA.out; have := HZDR.out; omega⟩)
        refine wp_append_run (.tmp 62) (.tmp 63) 27 27 rfl (.slice (some ⟨D.heap.size, 0, none⟩) 0 0) (.slice a i cc) rfl rfl _ _ e2 ?_
        simp only [Act.put, List.getElem_toArray, List.getElem_cons_zero, List.getElem_cons_succ, List.setIfInBounds_toArray, List.set_cons_zero, List.set_cons_succ]
        have HDX2 : Hid (Below D.heap.size D X2) := below_kept HDDR.out hk2 (fun b hb => ⟨by have := HDDR.out.size; omega, by have := HZDA.out; have := HZDR.out; omega⟩)
        have HOL : Hid (∀ g', (Value.slice p2 i c2).ownBlock = some g' → D.heap.size ≤ g' ∧ g' < X2.heap.size ∧ (g' = D.heap.size ∨ g' = DR.heap.size)) := fun g' e => ⟨by have := HZDA.out; have := HZDR.out; rcases hv2 g' e with h | h <;> omega, by obtain ⟨cells, h1, _⟩ := ho2; exact (h1.lt g' e).2, hv2 g' e⟩
        have HK2 := hid hk2
        have HSX2 := hid (HSALL.out X2 HDX2.out)
        first | refine hK.out _ _ HSX2.out (fun hHeld => ?_) | refine hK _ _ HSX2.out (fun hHeld => ?_)
        clear hK K' e2 hk2 hv2
        have hgR : X2.heap[DA.heap.size]? = some (.cells #[.string tS, .slice pv mt cv, .slice pr nr cr] 56 (0, 0)) := (HK2.out.block _ ⟨by have := HZDR.out; omega, by have := HZDA.out; omega⟩).trans hgDR
        refine wpAnyH_ready (rs := [5]) (by kernel_rfl) (by simp) ?_
        refine AllReadyH.cons rfl (fun K' hK => ?_) AllReadyH.nil
        rw [if_pos (by rfl)]
        obtain ⟨p4, c4, X4, e4, hl4, hk4⟩ := app_row (fun b => b < D.heap.size) X2 (DA.heap.size) tS (.slice pv mt cv) pr nr cr t hgR p2 i c2 l HN.out ho2 (fun e => by have := HZDA.out; have := HZDR.out; rcases (HOL.out _ e).2.2 with h | h <;> omega) (fun b hb => ⟨by have := HDX2.out.size; omega, fun e => by have := (HOL.out _ e).1; omega⟩) (HRT.out X2 HDX2.out) hnb
        refine wp_append_run (.tmp 64) (.tmp 66) 27 27 rfl (.slice p2 i c2) (.slice (some ⟨DA.heap.size, 0, none⟩) 1 1) rfl rfl _ _ e4 ?_
        simp only [Act.put, List.getElem_toArray, List.getElem_cons_zero, List.getElem_cons_succ, List.setIfInBounds_toArray, List.set_cons_zero, List.set_cons_succ]
        have HDX4 : Hid (Below D.heap.size D X4) := below_kept HDX2.out hk4 (fun b hb => ⟨by have := HDX2.out.size; omega, fun e => by have := (HOL.out _ e).1; omega⟩)
        have HSX4 := hid (HSALL.out X4 HDX4.out)
        first | refine hK.out _ _ HSX4.out (fun hHeld => ?_) | refine hK _ _ HSX4.out (fun hHeld => ?_)
        clear hK K' e4 hk4
        refine wpAnyH_ready (rs := [6]) (by kernel_rfl) (by simp) ?_
        refine AllReadyH.cons rfl (fun K' hK => ?_) AllReadyH.nil
        rw [if_pos (by rfl)]
        go_simp
        first | refine hK.out _ _ HSX4.out (fun hHeld => ?_) | refine hK _ _ HSX4.out (fun hHeld => ?_)
        clear hK K'
        refine wpAnyH_done (by kernel_rfl) ?_ _
        have HL4 : Hid (ListIs rTab 3 64 (fun b => b < X4.heap.size) X4 (.slice p4 (i + 1) c4) (l ++ [t])) := hl4
        have HW9 : Hid (Below w.heap.size w X4) := HWD.out.trans (HDX4.out.mono HWD.out.size)
        have HP9 : Hid (Below V4.heap.size V4 X4) := HPD.out.trans (HDX4.out.mono HPD.out.size)
        have H09 : Hid (Below W0.heap.size W0 X4) := H0D.out.trans (HDX4.out.mono H0D.out.size)
        have HRQ := hid (HBX.out X4 H09.out).2.1
        have x1 : X4.cell? ⟨w.heap.size, 1, none⟩ = some (.string s0) := HRQ.out 1 _ rfl
        have x2 : X4.cell? ⟨w.heap.size, 2, none⟩ = some (.string s1) := HRQ.out 2 _ rfl
        have x3 : X4.cell? ⟨w.heap.size + 1, 0, none⟩ = some (.string tS) := (HBX.out X4 H09.out).2.2 0 _ rfl
        have HLN : Hid ((l ++ [t]).length = i + 1) := by show _ = _; rw [List.length_append, HN.out]; rfl
        have CM : Hid (Calls prog 17 #[.slice p4 (i + 1) c4] X4 fun e w' => e = .returned (.int .i64 (catP (l ++ [t]))) ∧ Below X4.heap.size X4 w') := by
         have := CC.out X4 HW9.out (l ++ [t]) p4 c4 (by rw [HLN.out]; exact HL4.out)
         rwa [HLN.out] at this
        clear hl4
        obtain ⟨E1, hE1⟩ : ∃ E, (tS.toList == s0.toList) = E := ⟨_, rfl⟩
        cases E1 with
        | true =>
         go_wp2_with fail
         go_ret
         exact ⟨rfl, HW9.out⟩
        | false =>
        obtain ⟨E2, hE2⟩ : ∃ E, (tS.toList == s1.toList) = E := ⟨_, rfl⟩
        cases E2 with
        | true =>
         go_wp2_with fail
         go_ret
         exact ⟨rfl, HW9.out⟩
        | false =>
        have HNE : Hid (t.n ≠ q.t ∧ t.n ≠ q.j) := by
         refine ⟨fun e => ?_, fun e => ?_⟩
         · have h1 : tS = s0 := by rw [← HTN.out.2.1, ← HTN.out.2.2.1, e]
           rw [h1] at hE1
           simp at hE1
         · have h1 : tS = s1 := by rw [← HTN.out.2.1, ← HTN.out.2.2.2, e]
           rw [h1] at hE2
           simp at hE2
        go_wp2_with fail
        refine CM.out.mono ?_
        rintro e w8 ⟨rfl, hb8⟩
        have HW8 : Hid (Below w.heap.size w w8) := HW9.out.trans (hb8.mono HW9.out.size)
        have HP8 : Hid (Below X4.heap.size X4 w8) := hb8
        obtain ⟨y2, hy2⟩ : ∃ y, catP (l ++ [t]) = y := ⟨_, rfl⟩
        rw [hy2]
        clear CM hb8 x1 x2 x3 hE1 hE2
        by_cases h0 : y2 = 0
        case neg =>
         have z0 : (y2 != 0) = true := bne_iff_ne.2 h0
         clear h0 hy2
         go_wp2_with fail
         go_ret
         exact ⟨rfl, HW8.out⟩
        subst h0
        have HBE := hid (bind_more (q := q) hy2 HNE.out.1 HNE.out.2)
        have HQ8 : Hid (w8.rangeAt w.heap.size 0 (#[.slice pi ni ci, .string s0, .string s1, .string s2, .string s3, .slice pw nw cw, .slice pg ng cg]).toList) := (HBX.out w8 (H09.out.trans (HP8.out.mono H09.out.size))).2.1
        have CX : Hid (Calls prog 10 #[.agg #[.slice pi ni ci, .string s0, .string s1, .string s2, .string s3, .slice pw nw cw, .slice pg ng cg], .slice p4 (i + 1) c4] w8 fun e w' => OutB w8.heap.size w' (bindP q l) e ∧ Below w8.heap.size w8 w') := by
         have := CB.out w8 HW8.out (l ++ [t]) p4 c4 (by rw [HLN.out]; exact HL4.out.mono mTab (fun b hb => Nat.lt_of_lt_of_le hb HP8.out.size) (kept_of (fun b hb => hb) HP8.out))
         rwa [HLN.out, HBE.out] at this
        clear hy2
        go_wp2_with (refine wpList_load_mid rfl 26 _ rfl w.heap.size 0 rfl _ _ HQ8.out underlying26 rfl sz_qry ?_)
        refine CX.out.mono ?_
        rintro e w10 ⟨⟨v, rfl, hbi⟩, hb3⟩
        obtain ⟨pw_c, pg_c, pi_c, pn_c, pk_c, cw_c, cg_c, ci_c, cn_c, ck_c, rfl, h1, h2, h3, h4, h5⟩ := hbi
        rw [HRS.out.1] at h1 h2 h3 h4 h5
        rw [HRS.out.1, HRS.out.2, HNM.out]
        obtain ⟨WA, hWA, hth, V9, hV3, hgQ, hbV⟩ := box_any w10 32 #[.string ⟨#[]⟩, .string ⟨#[]⟩, .int .i64 0, .int .i64 0, .int .i64 0, .slice none 0 0, .slice none 0 0, .slice none 0 0, .bool false, .slice none 0 0, .slice none 0 0] [.string t0, .string t1, .int .i64 bd, .int .i64 ba, .int .i64 bb, .slice pw_c n1 cw_c, .slice pg_c n2 cg_c, .slice pi_c n3 ci_c, .bool br, .slice pn_c n4 cn_c, .slice pk_c n5 ck_c] rfl
        have HTH : Hid (WA.there w10.heap.size 0 11) := hth
        have HV3 : Hid (WA.setCells w10.heap.size 0 (#[.string t0, .string t1, .int .i64 bd, .int .i64 ba, .int .i64 bb, .slice pw_c n1 cw_c, .slice pg_c n2 cg_c, .slice pi_c n3 ci_c, .bool br, .slice pn_c n4 cn_c, .slice pk_c n5 ck_c] : Array Value).toList = V9) := hV3
        have HON : Hid ((#[.string t0, .string t1, .int .i64 bd, .int .i64 ba, .int .i64 bb, .slice pw_c n1 cw_c, .slice pg_c n2 cg_c, .slice pi_c n3 ci_c, .bool br, .slice pn_c n4 cn_c, .slice pk_c n5 ck_c] : Array Value).all (·.oneCell') = true) := by show _ = _; simp [Value.oneCell']
        have HPc : Hid (Below w8.heap.size w8 V9) := hb3.trans (hbV.mono hb3.size)
        have HLc : Hid (∀ X, Below V9.heap.size V9 X → X.rangeAt w10.heap.size 0 (#[.string t0, .string t1, .int .i64 bd, .int .i64 ba, .int .i64 bb, .slice pw_c n1 cw_c, .slice pg_c n2 cg_c, .slice pi_c n3 ci_c, .bool br, .slice pn_c n4 cn_c, .slice pk_c n5 ck_c]).toList ∧ ListIs rStpW 3 32 (fun b => b < w10.heap.size) X (.slice pw_c bB.w.length cw_c) bB.w ∧ ListIs rInt 1 8 (fun b => b < w10.heap.size) X (.slice pg_c bB.g.length cg_c) bB.g ∧ ListIs rItmW 2 32 (fun b => b < w10.heap.size) X (.slice pi_c bB.i.length ci_c) bB.i ∧ ListIs rStrW 1 16 (fun b => b < w10.heap.size) X (.slice pn_c bB.n.length cn_c) bB.n ∧ ListIs rKnd 1 1 (fun b => b < w10.heap.size) X (.slice pk_c bB.k.length ck_c) bB.k ∧ w10.heap.size ≤ X.heap.size) := fun X hX => by
         have hlX : w10.heap.size < V9.heap.size := (Array.getElem?_eq_some_iff.1 hgQ).1
         have hwX : Below w10.heap.size w10 X := hbV.trans (hX.mono hbV.size)
         have hk : ∀ b, From w8.heap.size w10 b → b < w10.heap.size := fun b hb => hb.2
         have hkk := kept_of (K := From w8.heap.size w10) (fun b hb => hb.2) hwX
         exact ⟨fun j u hu => by rw [Nat.zero_add]; exact cell_of_row ((hX.block _ hlX).trans hgQ) (by simpa using hu), h1.mono mStpW hk hkk, h2.mono mInt hk hkk, h3.mono mItmW hk hkk, h4.mono mStrW hk hkk, h5.mono mKnd hk hkk, hwX.size⟩
        clear CX h1 h2 h3 h4 h5 hth hV3 hgQ hbV hb3
        have HP48 : Hid (Below V4.heap.size V4 V9) := HP9.out.trans ((HP8.out.trans (HPc.out.mono HP8.out.size)).mono HP9.out.size)
        have HW10 : Hid (Below w.heap.size w V9) := HW8.out.trans (HPc.out.mono HW8.out.size)
        have HPA9 : Hid (Below V3.heap.size V3 V9) := HPb.out.trans (HP48.out.mono HPb.out.size)
        have CS : Hid (Calls prog 11 #[.agg #[.string t0, .string t1, .int .i64 bd, .int .i64 ba, .int .i64 bb, .slice pw_a n1 cw_a, .slice pg_a n2 cg_a, .slice pi_a n3 ci_a, .bool br, .slice pn_a n4 cn_a, .slice pk_a n5 ck_a], .agg #[.string t0, .string t1, .int .i64 bd, .int .i64 ba, .int .i64 bb, .slice pw_c n1 cw_c, .slice pg_c n2 cg_c, .slice pi_c n3 ci_c, .bool br, .slice pn_c n4 cn_c, .slice pk_c n5 ck_c]] V9 fun e w' => e = .returned (.bool true) ∧ Below V9.heap.size V9 w') := by
         obtain ⟨_, x1, x2, x3, x4, x5, x6⟩ := HLa.out V9 HPA9.out
         obtain ⟨_, y1, y2, y3, y4, y5, y6⟩ := HLc.out V9 (Below.refl _ _)
         have := same_eqB _ _ bB pw_a pg_a pi_a pn_a pk_a pw_c pg_c pi_c pn_c pk_c cw_a cg_a ci_a cn_a ck_a cw_c cg_c ci_c cn_c ck_c V9 x1 x2 x3 x4 x5 y1 y2 y3 y4 y5 (fun b hb => Nat.lt_of_lt_of_le hb x6) (fun b hb => Nat.lt_of_lt_of_le hb y6)
         rwa [HNM.out, HNM.out] at this
        have HRa := hid (HLa.out V9 HPA9.out).1
        have HRc := hid (HLc.out V9 (Below.refl _ _)).1
        go_wp2_with (first | (refine wpList_store_mid rfl 32 _ _ rfl w10.heap.size 0 #[.string t0, .string t1, .int .i64 bd, .int .i64 ba, .int .i64 bb, .slice pw_c n1 cw_c, .slice pg_c n2 cg_c, .slice pi_c n3 ci_c, .bool br, .slice pn_c n4 cn_c, .slice pk_c n5 ck_c] rfl rfl HTH.out sz_bnd HON.out ?_; rw [show WA.setCells w10.heap.size 0 (#[.string t0, .string t1, .int .i64 bd, .int .i64 ba, .int .i64 bb, .slice pw_c n1 cw_c, .slice pg_c n2 cg_c, .slice pi_c n3 ci_c, .bool br, .slice pn_c n4 cn_c, .slice pk_c n5 ck_c] : Array Value).toList = V9 from HV3.out]) | (refine wpList_load_mid rfl 32 _ rfl w3.heap.size 0 rfl _ _ HRa.out underlying32 rfl sz_bnd ?_) | (refine wpList_load_mid rfl 32 _ rfl w10.heap.size 0 rfl _ _ HRc.out underlying32 rfl sz_bnd ?_))
        refine CS.out.mono ?_
        rintro e w11 ⟨rfl, hb11⟩
        have HW11 : Hid (Below w.heap.size w w11) := HW10.out.trans (hb11.mono HW10.out.size)
        have ee2 : (er == er) = true := by simp
        clear CS HTH HV3 HON hWA HRa HRc hb11
        go_wp2_with fail
        go_ret
        exact ⟨rfl, HW11.out⟩
    · rw [if_pos (by rfl)]
      go_simp
      obtain ⟨DR, hDR⟩ : ∃ V, D.alloc (.cells #[.string tS, .slice pv mt cv, .slice pr nr cr] 56) = V := ⟨_, rfl⟩
      have hgDR : DR.heap[D.heap.size]? = some (.cells #[.string tS, .slice pv mt cv, .slice pr nr cr] 56 (0, 0)) := by rw [← hDR]; exact heap_alloc_new _ _
      have hbDR : Below D.heap.size D DR := by rw [← hDR]; exact below_alloc _ _
      have hsDR : DR.heap.size = D.heap.size + 1 := by rw [← hDR]; simp
      rw [hDR]
      have HDDR : Hid (Below D.heap.size D DR) := hbDR
      have HSDR := hid (HSALL.out DR HDDR.out)
      first | refine hK.out _ _ HSDR.out (fun hHeld => ?_) | refine hK _ _ HSDR.out (fun hHeld => ?_)
      clear hK K'
      have HZDR := hid hsDR
      clear hDR hsDR
      refine wpAnyH_ready (rs := [0]) (by kernel_rfl) (by simp) ?_
      refine AllReadyH.cons rfl (fun K' hK => ?_) AllReadyH.nil
      rw [if_pos (by rfl)]
      go_simp
      obtain ⟨DA, hDA⟩ : ∃ V, DR.alloc (.cells #[] 56) = V := ⟨_, rfl⟩
      have hgDA : DA.heap[DR.heap.size]? = some (.cells #[] 56 (0, 0)) := by rw [← hDA]; exact heap_alloc_new _ _
      have hbDA : Below DR.heap.size DR DA := by rw [← hDA]; exact below_alloc _ _
      have hsDA : DA.heap.size = DR.heap.size + 1 := by rw [← hDA]; simp
      rw [hDA]
      have HDDA : Hid (Below D.heap.size D DA) := HDDR.out.trans (hbDA.mono HDDR.out.size)
      have HSDA := hid (HSALL.out DA HDDA.out)
      first | refine hK.out _ _ HSDA.out (fun hHeld => ?_) | refine hK _ _ HSDA.out (fun hHeld => ?_)
      clear hK K'
      have HZDA := hid hsDA
      clear hDA hsDA
      refine wpAnyH_ready (rs := [2]) (by kernel_rfl) (by simp) ?_
      refine AllReadyH.cons rfl (fun K' hK => ?_) AllReadyH.nil
      rw [if_pos (by rfl)]
      obtain ⟨p2, c2, X2, e2, ho2, hk2, hv2⟩ := app_bare (fun b => b < D.heap.size) DA (DR.heap.size) hgDA a i cc l HN.out (HBD.out.later mTab (fun b hb => hb) HDDA.out) (fun b hb => ⟨by have := HDDA.out.size; omega, by have := HZDA.out; have := HZDR.out; omega⟩)
      refine wp_append_run (.tmp 62) (.tmp 63) 27 27 rfl (.slice (some ⟨DR.heap.size, 0, none⟩) 0 0) (.slice a i cc) rfl rfl _ _ e2 ?_
      simp only [Act.put, List.getElem_toArray, List.getElem_cons_zero, List.getElem_cons_succ, List.setIfInBounds_toArray, List.set_cons_zero, List.set_cons_succ]
      have HDX2 : Hid (Below D.heap.size D X2) := below_kept HDDA.out hk2 (fun b hb => ⟨by have := HDDA.out.size; omega, by have := HZDA.out; have := HZDR.out; omega⟩)
      have HOL : Hid (∀ g', (Value.slice p2 i c2).ownBlock = some g' → D.heap.size ≤ g' ∧ g' < X2.heap.size ∧ (g' = DR.heap.size ∨ g' = DA.heap.size)) := fun g' e => ⟨by have := HZDA.out; have := HZDR.out; rcases hv2 g' e with h | h <;> omega, by obtain ⟨cells, h1, _⟩ := ho2; exact (h1.lt g' e).2, hv2 g' e⟩
      have HK2 := hid hk2
      have HSX2 := hid (HSALL.out X2 HDX2.out)
      first | refine hK.out _ _ HSX2.out (fun hHeld => ?_) | refine hK _ _ HSX2.out (fun hHeld => ?_)
      clear hK K' e2 hk2 hv2
      have hgR : X2.heap[D.heap.size]? = some (.cells #[.string tS, .slice pv mt cv, .slice pr nr cr] 56 (0, 0)) := (HK2.out.block _ ⟨by have := HZDA.out; have := HZDR.out; omega, by have := HZDR.out; omega⟩).trans ((hbDA.block _ (by have := HZDR.out; omega)).trans hgDR)
      refine wpAnyH_ready (rs := [5]) (by kernel_rfl) (by simp) ?_
      refine AllReadyH.cons rfl (fun K' hK => ?_) AllReadyH.nil
      rw [if_pos (by rfl)]
      obtain ⟨p4, c4, X4, e4, hl4, hk4⟩ := app_row (fun b => b < D.heap.size) X2 (D.heap.size) tS (.slice pv mt cv) pr nr cr t hgR p2 i c2 l HN.out ho2 (fun e => by have := HZDA.out; have := HZDR.out; rcases (HOL.out _ e).2.2 with h | h <;> omega) (fun b hb => ⟨by have := HDX2.out.size; omega, fun e => by have := (HOL.out _ e).1; omega⟩) (HRT.out X2 HDX2.out) hnb
      refine wp_append_run (.tmp 64) (.tmp 66) 27 27 rfl (.slice p2 i c2) (.slice (some ⟨D.heap.size, 0, none⟩) 1 1) rfl rfl _ _ e4 ?_
      simp only [Act.put, List.getElem_toArray, List.getElem_cons_zero, List.getElem_cons_succ, List.setIfInBounds_toArray, List.set_cons_zero, List.set_cons_succ]
      have HDX4 : Hid (Below D.heap.size D X4) := below_kept HDX2.out hk4 (fun b hb => ⟨by have := HDX2.out.size; omega, fun e => by have := (HOL.out _ e).1; omega⟩)
      have HSX4 := hid (HSALL.out X4 HDX4.out)
      first | refine hK.out _ _ HSX4.out (fun hHeld => ?_) | refine hK _ _ HSX4.out (fun hHeld => ?_)
      clear hK K' e4 hk4
      refine wpAnyH_ready (rs := [6]) (by kernel_rfl) (by simp) ?_
      refine AllReadyH.cons rfl (fun K' hK => ?_) AllReadyH.nil
      rw [if_pos (by rfl)]
      go_simp
      first | refine hK.out _ _ HSX4.out (fun hHeld => ?_) | refine hK _ _ HSX4.out (fun hHeld => ?_)
      clear hK K'
      refine wpAnyH_done (by kernel_rfl) ?_ _
      have HL4 : Hid (ListIs rTab 3 64 (fun b => b < X4.heap.size) X4 (.slice p4 (i + 1) c4) (l ++ [t])) := hl4
      have HW9 : Hid (Below w.heap.size w X4) := HWD.out.trans (HDX4.out.mono HWD.out.size)
      have HP9 : Hid (Below V4.heap.size V4 X4) := HPD.out.trans (HDX4.out.mono HPD.out.size)
      have H09 : Hid (Below W0.heap.size W0 X4) := H0D.out.trans (HDX4.out.mono H0D.out.size)
      have HRQ := hid (HBX.out X4 H09.out).2.1
      have x1 : X4.cell? ⟨w.heap.size, 1, none⟩ = some (.string s0) := HRQ.out 1 _ rfl
      have x2 : X4.cell? ⟨w.heap.size, 2, none⟩ = some (.string s1) := HRQ.out 2 _ rfl
      have x3 : X4.cell? ⟨w.heap.size + 1, 0, none⟩ = some (.string tS) := (HBX.out X4 H09.out).2.2 0 _ rfl
      have HLN : Hid ((l ++ [t]).length = i + 1) := by show _ = _; rw [List.length_append, HN.out]; rfl
      have CM : Hid (Calls prog 17 #[.slice p4 (i + 1) c4] X4 fun e w' => e = .returned (.int .i64 (catP (l ++ [t]))) ∧ Below X4.heap.size X4 w') := by
       have := CC.out X4 HW9.out (l ++ [t]) p4 c4 (by rw [HLN.out]; exact HL4.out)
       rwa [HLN.out] at this
      clear hl4
      obtain ⟨E1, hE1⟩ : ∃ E, (tS.toList == s0.toList) = E := ⟨_, rfl⟩
      cases E1 with
      | true =>
       go_wp2_with fail
       go_ret
       exact ⟨rfl, HW9.out⟩
      | false =>
      obtain ⟨E2, hE2⟩ : ∃ E, (tS.toList == s1.toList) = E := ⟨_, rfl⟩
      cases E2 with
      | true =>
       go_wp2_with fail
       go_ret
       exact ⟨rfl, HW9.out⟩
      | false =>
      have HNE : Hid (t.n ≠ q.t ∧ t.n ≠ q.j) := by
       refine ⟨fun e => ?_, fun e => ?_⟩
       · have h1 : tS = s0 := by rw [← HTN.out.2.1, ← HTN.out.2.2.1, e]
         rw [h1] at hE1
         simp at hE1
       · have h1 : tS = s1 := by rw [← HTN.out.2.1, ← HTN.out.2.2.2, e]
         rw [h1] at hE2
         simp at hE2
      go_wp2_with fail
      refine CM.out.mono ?_
      rintro e w8 ⟨rfl, hb8⟩
      have HW8 : Hid (Below w.heap.size w w8) := HW9.out.trans (hb8.mono HW9.out.size)
      have HP8 : Hid (Below X4.heap.size X4 w8) := hb8
      obtain ⟨y2, hy2⟩ : ∃ y, catP (l ++ [t]) = y := ⟨_, rfl⟩
      rw [hy2]
      clear CM hb8 x1 x2 x3 hE1 hE2
      by_cases h0 : y2 = 0
      case neg =>
       have z0 : (y2 != 0) = true := bne_iff_ne.2 h0
       clear h0 hy2
       go_wp2_with fail
       go_ret
       exact ⟨rfl, HW8.out⟩
      subst h0
      have HBE := hid (bind_more (q := q) hy2 HNE.out.1 HNE.out.2)
      have HQ8 : Hid (w8.rangeAt w.heap.size 0 (#[.slice pi ni ci, .string s0, .string s1, .string s2, .string s3, .slice pw nw cw, .slice pg ng cg]).toList) := (HBX.out w8 (H09.out.trans (HP8.out.mono H09.out.size))).2.1
      have CX : Hid (Calls prog 10 #[.agg #[.slice pi ni ci, .string s0, .string s1, .string s2, .string s3, .slice pw nw cw, .slice pg ng cg], .slice p4 (i + 1) c4] w8 fun e w' => OutB w8.heap.size w' (bindP q l) e ∧ Below w8.heap.size w8 w') := by
       have := CB.out w8 HW8.out (l ++ [t]) p4 c4 (by rw [HLN.out]; exact HL4.out.mono mTab (fun b hb => Nat.lt_of_lt_of_le hb HP8.out.size) (kept_of (fun b hb => hb) HP8.out))
       rwa [HLN.out, HBE.out] at this
      clear hy2
      go_wp2_with (refine wpList_load_mid rfl 26 _ rfl w.heap.size 0 rfl _ _ HQ8.out underlying26 rfl sz_qry ?_)
      refine CX.out.mono ?_
      rintro e w10 ⟨⟨v, rfl, hbi⟩, hb3⟩
      obtain ⟨pw_c, pg_c, pi_c, pn_c, pk_c, cw_c, cg_c, ci_c, cn_c, ck_c, rfl, h1, h2, h3, h4, h5⟩ := hbi
      rw [HRS.out.1] at h1 h2 h3 h4 h5
      rw [HRS.out.1, HRS.out.2, HNM.out]
      obtain ⟨WA, hWA, hth, V9, hV3, hgQ, hbV⟩ := box_any w10 32 #[.string ⟨#[]⟩, .string ⟨#[]⟩, .int .i64 0, .int .i64 0, .int .i64 0, .slice none 0 0, .slice none 0 0, .slice none 0 0, .bool false, .slice none 0 0, .slice none 0 0] [.string t0, .string t1, .int .i64 bd, .int .i64 ba, .int .i64 bb, .slice pw_c n1 cw_c, .slice pg_c n2 cg_c, .slice pi_c n3 ci_c, .bool br, .slice pn_c n4 cn_c, .slice pk_c n5 ck_c] rfl
      have HTH : Hid (WA.there w10.heap.size 0 11) := hth
      have HV3 : Hid (WA.setCells w10.heap.size 0 (#[.string t0, .string t1, .int .i64 bd, .int .i64 ba, .int .i64 bb, .slice pw_c n1 cw_c, .slice pg_c n2 cg_c, .slice pi_c n3 ci_c, .bool br, .slice pn_c n4 cn_c, .slice pk_c n5 ck_c] : Array Value).toList = V9) := hV3
      have HON : Hid ((#[.string t0, .string t1, .int .i64 bd, .int .i64 ba, .int .i64 bb, .slice pw_c n1 cw_c, .slice pg_c n2 cg_c, .slice pi_c n3 ci_c, .bool br, .slice pn_c n4 cn_c, .slice pk_c n5 ck_c] : Array Value).all (·.oneCell') = true) := by show _ = _; simp [Value.oneCell']
      have HPc : Hid (Below w8.heap.size w8 V9) := hb3.trans (hbV.mono hb3.size)
      have HLc : Hid (∀ X, Below V9.heap.size V9 X → X.rangeAt w10.heap.size 0 (#[.string t0, .string t1, .int .i64 bd, .int .i64 ba, .int .i64 bb, .slice pw_c n1 cw_c, .slice pg_c n2 cg_c, .slice pi_c n3 ci_c, .bool br, .slice pn_c n4 cn_c, .slice pk_c n5 ck_c]).toList ∧ ListIs rStpW 3 32 (fun b => b < w10.heap.size) X (.slice pw_c bB.w.length cw_c) bB.w ∧ ListIs rInt 1 8 (fun b => b < w10.heap.size) X (.slice pg_c bB.g.length cg_c) bB.g ∧ ListIs rItmW 2 32 (fun b => b < w10.heap.size) X (.slice pi_c bB.i.length ci_c) bB.i ∧ ListIs rStrW 1 16 (fun b => b < w10.heap.size) X (.slice pn_c bB.n.length cn_c) bB.n ∧ ListIs rKnd 1 1 (fun b => b < w10.heap.size) X (.slice pk_c bB.k.length ck_c) bB.k ∧ w10.heap.size ≤ X.heap.size) := fun X hX => by
       have hlX : w10.heap.size < V9.heap.size := (Array.getElem?_eq_some_iff.1 hgQ).1
       have hwX : Below w10.heap.size w10 X := hbV.trans (hX.mono hbV.size)
       have hk : ∀ b, From w8.heap.size w10 b → b < w10.heap.size := fun b hb => hb.2
       have hkk := kept_of (K := From w8.heap.size w10) (fun b hb => hb.2) hwX
       exact ⟨fun j u hu => by rw [Nat.zero_add]; exact cell_of_row ((hX.block _ hlX).trans hgQ) (by simpa using hu), h1.mono mStpW hk hkk, h2.mono mInt hk hkk, h3.mono mItmW hk hkk, h4.mono mStrW hk hkk, h5.mono mKnd hk hkk, hwX.size⟩
      clear CX h1 h2 h3 h4 h5 hth hV3 hgQ hbV hb3
      have HP48 : Hid (Below V4.heap.size V4 V9) := HP9.out.trans ((HP8.out.trans (HPc.out.mono HP8.out.size)).mono HP9.out.size)
      have HW10 : Hid (Below w.heap.size w V9) := HW8.out.trans (HPc.out.mono HW8.out.size)
      have HPA9 : Hid (Below V3.heap.size V3 V9) := HPb.out.trans (HP48.out.mono HPb.out.size)
      have CS : Hid (Calls prog 11 #[.agg #[.string t0, .string t1, .int .i64 bd, .int .i64 ba, .int .i64 bb, .slice pw_a n1 cw_a, .slice pg_a n2 cg_a, .slice pi_a n3 ci_a, .bool br, .slice pn_a n4 cn_a, .slice pk_a n5 ck_a], .agg #[.string t0, .string t1, .int .i64 bd, .int .i64 ba, .int .i64 bb, .slice pw_c n1 cw_c, .slice pg_c n2 cg_c, .slice pi_c n3 ci_c, .bool br, .slice pn_c n4 cn_c, .slice pk_c n5 ck_c]] V9 fun e w' => e = .returned (.bool true) ∧ Below V9.heap.size V9 w') := by
       obtain ⟨_, x1, x2, x3, x4, x5, x6⟩ := HLa.out V9 HPA9.out
       obtain ⟨_, y1, y2, y3, y4, y5, y6⟩ := HLc.out V9 (Below.refl _ _)
       have := same_eqB _ _ bB pw_a pg_a pi_a pn_a pk_a pw_c pg_c pi_c pn_c pk_c cw_a cg_a ci_a cn_a ck_a cw_c cg_c ci_c cn_c ck_c V9 x1 x2 x3 x4 x5 y1 y2 y3 y4 y5 (fun b hb => Nat.lt_of_lt_of_le hb x6) (fun b hb => Nat.lt_of_lt_of_le hb y6)
       rwa [HNM.out, HNM.out] at this
      have HRa := hid (HLa.out V9 HPA9.out).1
      have HRc := hid (HLc.out V9 (Below.refl _ _)).1
      go_wp2_with (first | (refine wpList_store_mid rfl 32 _ _ rfl w10.heap.size 0 #[.string t0, .string t1, .int .i64 bd, .int .i64 ba, .int .i64 bb, .slice pw_c n1 cw_c, .slice pg_c n2 cg_c, .slice pi_c n3 ci_c, .bool br, .slice pn_c n4 cn_c, .slice pk_c n5 ck_c] rfl rfl HTH.out sz_bnd HON.out ?_; rw [show WA.setCells w10.heap.size 0 (#[.string t0, .string t1, .int .i64 bd, .int .i64 ba, .int .i64 bb, .slice pw_c n1 cw_c, .slice pg_c n2 cg_c, .slice pi_c n3 ci_c, .bool br, .slice pn_c n4 cn_c, .slice pk_c n5 ck_c] : Array Value).toList = V9 from HV3.out]) | (refine wpList_load_mid rfl 32 _ rfl w3.heap.size 0 rfl _ _ HRa.out underlying32 rfl sz_bnd ?_) | (refine wpList_load_mid rfl 32 _ rfl w10.heap.size 0 rfl _ _ HRc.out underlying32 rfl sz_bnd ?_))
      refine CS.out.mono ?_
      rintro e w11 ⟨rfl, hb11⟩
      have HW11 : Hid (Below w.heap.size w w11) := HW10.out.trans (hb11.mono HW10.out.size)
      have ee2 : (er == er) = true := by simp
      clear CS HTH HV3 HON hWA HRa HRc hb11
      go_wp2_with fail
      go_ret
      exact ⟨rfl, HW11.out⟩
end Go.Proofs.YtfifphfihdhlaaaGreatDoor.Bd
