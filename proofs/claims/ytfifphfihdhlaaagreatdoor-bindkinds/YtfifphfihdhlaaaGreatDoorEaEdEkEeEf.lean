/- Bound queries that are one: what the reference's Same answers. -/
import Derived.Test.YtfifphfihdhlaaaGreatDoorDe
import Derived.Test.YtfifphfihdhlaaaGreatDoorCeCfCg
import Derived.Test.YtfifphfihdhlaaaGreatDoorCaCb
import Derived.Test.YtfifphfihdhlaaaGreatDoorCuCv
set_option maxRecDepth 100000
set_option maxHeartbeats 32000000
namespace Go.Proofs.YtfifphfihdhlaaaGreatDoor.Bd
open Tryz
open Go.Shelf Go.RowKit Go.Lib Go.Sort
set_option linter.unusedVariables false
set_option linter.unusedSimpArgs false
attribute [local go_sem ↓] Go.wp_at_zero Go.wp_at_succ
theorem run_step_eqW (k n : Int) (t : ByteArray) (w : World) :
 (binOp .neq 53 (.agg #[.int .u8 k, .string t, .int .i64 n]) (.agg #[.int .u8 k, .string t, .int .i64 n])).run prog w = .ok (.bool false) w := by
 have h : (binOp .eql 53 (.agg #[.int .u8 k, .string t, .int .i64 n]) (.agg #[.int .u8 k, .string t, .int .i64 n])).run prog w = .ok (.bool true) w := by
  have hS : prog.underlying 53 = some (.struct (prog.fieldsOf 53)) := by kernel_rfl
  have hp : prog.stoodInHeld 53 = false := by kernel_rfl
  have u3 := underlying3; have a3 := Tryz.isAgg3; have z3 := Tryz.sizeOf3
  have u9 := underlying9; have a9 := Tryz.isAgg9; have z9 := Tryz.sizeOf9
  have u1 := underlying51; have a1 := Tryz.isAgg51; have z1 := Tryz.sizeOf51
  have u2 := underlying2; have a2 := Tryz.isAgg2; have z2 := Tryz.sizeOf2
  rw [run_eql_struct, show (10000 : Nat) = 9999 + 1 from rfl, run_equalIn_struct w 9999 53 _ _ hS hp]
  simp only [Program.fieldsOf, underlying53]
  go_simp
 simp only [binOp, Sem.run_bind] at h ⊢
 generalize (Op.equal 53 (.agg #[.int .u8 k, .string t, .int .i64 n]) (.agg #[.int .u8 k, .string t, .int .i64 n])).run prog w = r at h ⊢
 cases r <;> simp_all
theorem texts_eqW (va vb : Value) (xs : List (List UInt8)) (K L : Nat → Prop) (w : World) (h : ListIs rStrW 1 16 K w va xs) (h' : ListIs rStrW 1 16 L w vb xs) (hK : ∀ b, K b → b < w.heap.size) (hL : ∀ b, L b → b < w.heap.size) :
 Calls prog 25 #[va, vb] w fun e w' => e = .returned (.bool true) ∧ Below w.heap.size w w' := by
 obtain ⟨p, c, rfl, hby, hp⟩ := h
 obtain ⟨q, d, rfl, _, hq⟩ := h'
 have HP : Hid _ := hp
 have HQ : Hid _ := hq
 have t3 : ((xs.length : Int) != (xs.length : Int)) = false := by simp
 have HKK : Hid (∀ b, K b → b < w.heap.size) := hK
 have HLL : Hid (∀ b, L b → b < w.heap.size) := hL
 clear hp hq hK hL
 go_enter func25, ntmps25
 go_wp2_with fail
 go_loopg [13] xs.length (fun gf s30 wx => ∃ i : Nat, s30 = .int .i64 i ∧ i ≤ xs.length ∧ xs.length ≤ i + gf ∧ Hid (Below w.heap.size w wx))
 case atStart => exact ⟨0, rfl, by omega, by omega, Below.refl _ _⟩
 case round =>
  obtain ⟨i, rfl, hi1, hgf, HB⟩ := hrel
  by_cases hi : i < xs.length
  · obtain ⟨g', rfl⟩ : ∃ g', gk = g' + 1 := ⟨gk - 1, by omega⟩
    obtain ⟨b, o, rfl, hKb, hc⟩ := HP.out (by omega)
    obtain ⟨b', o', rfl, hLb, hc'⟩ := HQ.out (by omega)
    obtain ⟨cs, hcl, hcell, hrel1⟩ := hc i hi
    obtain ⟨ds, hdl, hdell, hrel2⟩ := hc' i hi
    obtain ⟨x, hx⟩ : ∃ x, xs[i] = x := ⟨_, rfl⟩
    rw [hx] at hrel1 hrel2
    have hcs := hrel1.1
    have hds := hrel2.1
    have hcell2 : ∀ j u, cs[j]? = some u → wr.cell? ⟨b, o + i * 1 + j, none⟩ = some u := fun j u hj => by rw [HB.out.cell (p := ⟨b, _, none⟩) (HKK.out _ hKb)]; exact hcell j u hj
    have hdell2 : ∀ j u, ds[j]? = some u → wr.cell? ⟨b', o' + i * 1 + j, none⟩ = some u := fun j u hj => by rw [HB.out.cell (p := ⟨b', _, none⟩) (HLL.out _ hLb)]; exact hdell j u hj
    rw [hcs] at hcell2
    rw [hds] at hdell2
    have c0 := hcell2 0 _ rfl
    have e0 := hdell2 0 _ rfl
    simp only [Nat.add_zero, Nat.mul_one] at c0 e0
    obtain ⟨S, hS⟩ : ∃ S : ByteArray, (⟨x.toArray⟩ : ByteArray) = S := ⟨_, rfl⟩
    rw [hS] at c0 e0
    clear hS
    have z0 : (0 : Int) ≤ (i : Int) := by omega
    have z1 : (i : Int) < (xs.length : Int) := by omega
    have hbw := HB.out
    clear hc hc' hcell hdell hcell2 hdell2 hrel1 hrel2 hx HB hcl hdl hKb hLb hcs hds
    go_wp2_with fail
    go_quiet (fail)
    go_wp2_with fail
    go_roundg g'
    case measure => omega
    case rel => exact ⟨i + 1, by go_num, by omega, by omega, below_drewN hbw _⟩
  · have z1 : ¬ (i : Int) < (xs.length : Int) := by omega
    have HB2 : Hid (Below w.heap.size w wr) := HB.out
    clear HB
    go_wp2_with fail
    go_ret
    exact ⟨rfl, HB2.out⟩
theorem steps_eqW (va vb : Value) (xs : List Stp) (K L : Nat → Prop) (w : World) (h : ListIs rStpW 3 32 K w va xs) (h' : ListIs rStpW 3 32 L w vb xs) (hK : ∀ b, K b → b < w.heap.size) (hL : ∀ b, L b → b < w.heap.size) :
 Calls prog 24 #[va, vb] w fun e w' => e = .returned (.bool true) ∧ Below w.heap.size w w' := by
 obtain ⟨p, c, rfl, hby, hp⟩ := h
 obtain ⟨q, d, rfl, _, hq⟩ := h'
 have HP : Hid _ := hp
 have HQ : Hid _ := hq
 have t3 : ((xs.length : Int) != (xs.length : Int)) = false := by simp
 have HKK : Hid (∀ b, K b → b < w.heap.size) := hK
 have HLL : Hid (∀ b, L b → b < w.heap.size) := hL
 clear hp hq hK hL
 go_enter func24, ntmps24
 go_wp2_with fail
 go_loopg [13] xs.length (fun gf s30 wx => ∃ i : Nat, s30 = .int .i64 i ∧ i ≤ xs.length ∧ xs.length ≤ i + gf ∧ Hid (Below w.heap.size w wx))
 case atStart => exact ⟨0, rfl, by omega, by omega, Below.refl _ _⟩
 case round =>
  obtain ⟨i, rfl, hi1, hgf, HB⟩ := hrel
  by_cases hi : i < xs.length
  · obtain ⟨g', rfl⟩ : ∃ g', gk = g' + 1 := ⟨gk - 1, by omega⟩
    obtain ⟨b, o, rfl, hKb, hc⟩ := HP.out (by omega)
    obtain ⟨b', o', rfl, hLb, hc'⟩ := HQ.out (by omega)
    obtain ⟨cs, hcl, hcell, hrel1⟩ := hc i hi
    obtain ⟨ds, hdl, hdell, hrel2⟩ := hc' i hi
    obtain ⟨x, hx⟩ : ∃ x, xs[i] = x := ⟨_, rfl⟩
    rw [hx] at hrel1 hrel2
    have hcs := hrel1.1
    have hds := hrel2.1
    have hcell2 : ∀ j u, cs[j]? = some u → wr.cell? ⟨b, o + i * 3 + j, none⟩ = some u := fun j u hj => by rw [HB.out.cell (p := ⟨b, _, none⟩) (HKK.out _ hKb)]; exact hcell j u hj
    have hdell2 : ∀ j u, ds[j]? = some u → wr.cell? ⟨b', o' + i * 3 + j, none⟩ = some u := fun j u hj => by rw [HB.out.cell (p := ⟨b', _, none⟩) (HLL.out _ hLb)]; exact hdell j u hj
    rw [hcs] at hcell2
    rw [hds] at hdell2
    have c0 := hcell2 0 _ rfl
    have e0 := hdell2 0 _ rfl
    have c1 := hcell2 1 _ rfl
    have e1 := hdell2 1 _ rfl
    have c2 := hcell2 2 _ rfl
    have e2 := hdell2 2 _ rfl
    simp only [Nat.add_zero, Nat.mul_one] at c0 e0
    obtain ⟨S, hS⟩ : ∃ S : ByteArray, (⟨x.t.toArray⟩ : ByteArray) = S := ⟨_, rfl⟩
    rw [hS] at c1 e1
    clear hS
    have z0 : (0 : Int) ≤ (i : Int) := by omega
    have z1 : (i : Int) < (xs.length : Int) := by omega
    have hbw := HB.out
    clear hc hc' hcell hdell hcell2 hdell2 hrel1 hrel2 hx HB hcl hdl hKb hLb hcs hds
    have hne := run_step_eqW (x.k : Int) x.n S
    go_wp2_with fail
    go_quiet (fail)
    go_wp2_with fail
    go_roundg g'
    case measure => omega
    case rel => exact ⟨i + 1, by go_num, by omega, by omega, below_drewN hbw _⟩
  · have z1 : ¬ (i : Int) < (xs.length : Int) := by omega
    have HB2 : Hid (Below w.heap.size w wr) := HB.out
    clear HB
    go_wp2_with fail
    go_ret
    exact ⟨rfl, HB2.out⟩
theorem cell_list {α : Type} {rel : Rel α} {size bytes : Nat} {K : Nat → Prop} {w : World} {q : Option Addr} {n c : Nat} {l : List α} (h : ListIs rel size bytes K w (.slice q n c) l) (hl : 0 < l.length) : ∃ b o, q = some ⟨b, o, none⟩ ∧ K b ∧ ∀ i (hi : i < l.length), ∃ cs, (∀ j u, cs[j]? = some u → w.cell? ⟨b, o + i * size + j, none⟩ = some u) ∧ rel K w cs l[i] := by
 obtain ⟨q', c', e, _, hp⟩ := h
 obtain ⟨b, o, rfl, hKb, hc⟩ := hp hl
 cases e
 refine ⟨b, o, rfl, hKb, fun i hi => ?_⟩
 obtain ⟨cs, _, hcell, hr⟩ := hc i hi
 exact ⟨cs, hcell, hr⟩
theorem same_eqB (K L : Nat → Prop) (b : Bnd) (pw pg pi pn pk pw2 pg2 pi2 pn2 pk2 : Option Addr) (cw cg ci cn ck cw2 cg2 ci2 cn2 ck2 : Nat) (w : World)
 (hw : ListIs rStpW 3 32 K w (.slice pw b.w.length cw) b.w) (hg : ListIs rInt 1 8 K w (.slice pg b.g.length cg) b.g) (hi : ListIs rItmW 2 32 K w (.slice pi b.i.length ci) b.i) (hn : ListIs rStrW 1 16 K w (.slice pn b.n.length cn) b.n) (hk : ListIs rKnd 1 1 K w (.slice pk b.k.length ck) b.k)
 (hw2 : ListIs rStpW 3 32 L w (.slice pw2 b.w.length cw2) b.w) (hg2 : ListIs rInt 1 8 L w (.slice pg2 b.g.length cg2) b.g) (hi2 : ListIs rItmW 2 32 L w (.slice pi2 b.i.length ci2) b.i) (hn2 : ListIs rStrW 1 16 L w (.slice pn2 b.n.length cn2) b.n) (hk2 : ListIs rKnd 1 1 L w (.slice pk2 b.k.length ck2) b.k)
 (hK : ∀ b, K b → b < w.heap.size) (hL : ∀ b, L b → b < w.heap.size) :
 Calls prog 11 #[.agg (bndC b pw pg pi pn pk cw cg ci cn ck).toArray, .agg (bndC b pw2 pg2 pi2 pn2 pk2 cw2 cg2 ci2 cn2 ck2).toArray] w fun e w' => e = .returned (.bool true) ∧ Below w.heap.size w w' := by
 obtain ⟨t0, ht0⟩ : ∃ s : ByteArray, (⟨b.t.toArray⟩ : ByteArray) = s := ⟨_, rfl⟩
 obtain ⟨t1, ht1⟩ : ∃ s : ByteArray, (⟨b.j.toArray⟩ : ByteArray) = s := ⟨_, rfl⟩
 obtain ⟨bd, hbd⟩ : ∃ x, b.d = x := ⟨_, rfl⟩
 obtain ⟨ba, hba⟩ : ∃ x, b.a = x := ⟨_, rfl⟩
 obtain ⟨bb, hbb⟩ : ∃ x, b.b = x := ⟨_, rfl⟩
 obtain ⟨br, hbr⟩ : ∃ x, b.r = x := ⟨_, rfl⟩
 obtain ⟨n1, hn1⟩ : ∃ x, b.w.length = x := ⟨_, rfl⟩
 obtain ⟨n2, hn2'⟩ : ∃ x, b.g.length = x := ⟨_, rfl⟩
 obtain ⟨n3, hn3⟩ : ∃ x, b.i.length = x := ⟨_, rfl⟩
 obtain ⟨n4, hn4⟩ : ∃ x, b.n.length = x := ⟨_, rfl⟩
 obtain ⟨n5, hn5⟩ : ∃ x, b.k.length = x := ⟨_, rfl⟩
 have hA : (bndC b pw pg pi pn pk cw cg ci cn ck).toArray = #[.string t0, .string t1, .int .i64 bd, .int .i64 ba, .int .i64 bb, .slice pw n1 cw, .slice pg n2 cg, .slice pi n3 ci, .bool br, .slice pn n4 cn, .slice pk n5 ck] := by unfold bndC; rw [ht0, ht1, hbd, hba, hbb, hbr, hn1, hn2', hn3, hn4, hn5]
 have hB : (bndC b pw2 pg2 pi2 pn2 pk2 cw2 cg2 ci2 cn2 ck2).toArray = #[.string t0, .string t1, .int .i64 bd, .int .i64 ba, .int .i64 bb, .slice pw2 n1 cw2, .slice pg2 n2 cg2, .slice pi2 n3 ci2, .bool br, .slice pn2 n4 cn2, .slice pk2 n5 ck2] := by unfold bndC; rw [ht0, ht1, hbd, hba, hbb, hbr, hn1, hn2', hn3, hn4, hn5]
 have HN : Hid (b.g.length = n2 ∧ b.i.length = n3 ∧ b.k.length = n5) := ⟨hn2', hn3, hn5⟩
 obtain ⟨W0, hW0, hb0, hz0, g0, g1⟩ := two_boxes2 w #[.string t0, .string t1, .int .i64 bd, .int .i64 ba, .int .i64 bb, .slice pw n1 cw, .slice pg n2 cg, .slice pi n3 ci, .bool br, .slice pn n4 cn, .slice pk n5 ck] #[.string t0, .string t1, .int .i64 bd, .int .i64 ba, .int .i64 bb, .slice pw2 n1 cw2, .slice pg2 n2 cg2, .slice pi2 n3 ci2, .bool br, .slice pn2 n4 cn2, .slice pk2 n5 ck2] 32 32
 have HG : Hid (∀ V, Below W0.heap.size W0 V → V.heap[w.heap.size]? = some (.cells #[.string t0, .string t1, .int .i64 bd, .int .i64 ba, .int .i64 bb, .slice pw n1 cw, .slice pg n2 cg, .slice pi n3 ci, .bool br, .slice pn n4 cn, .slice pk n5 ck] 32 (0, 0)) ∧ V.heap[w.heap.size + 1]? = some (.cells #[.string t0, .string t1, .int .i64 bd, .int .i64 ba, .int .i64 bb, .slice pw2 n1 cw2, .slice pg2 n2 cg2, .slice pi2 n3 ci2, .bool br, .slice pn2 n4 cn2, .slice pk2 n5 ck2] 32 (0, 0)) ∧ Below w.heap.size w V) := fun V hb => ⟨(hb.block _ (by omega)).trans g0, (hb.block _ (by omega)).trans g1, hb0.trans (hb.mono hb0.size)⟩
 have hKV : ∀ V, Below w.heap.size w V → ∀ b, K b → b < V.heap.size := fun V hV b hb => nlt (hK b hb) hV.size
 have hLV : ∀ V, Below w.heap.size w V → ∀ b, L b → b < V.heap.size := fun V hV b hb => nlt (hL b hb) hV.size
 have CS : Hid (Calls prog 24 #[.slice pw n1 cw, .slice pw2 n1 cw2] W0 fun e w' => e = .returned (.bool true) ∧ Below W0.heap.size W0 w') := by have := steps_eqW _ _ b.w K L W0 (hw.later mStpW hK hb0) (hw2.later mStpW hL hb0) (hKV _ hb0) (hLV _ hb0); rw [hn1] at this; exact this
 have CT : Hid (∀ V, Below W0.heap.size W0 V → Calls prog 25 #[.slice pn n4 cn, .slice pn2 n4 cn2] V fun e w' => e = .returned (.bool true) ∧ Below V.heap.size V w') := fun V hb => by have hbw := hb0.trans (hb.mono hb0.size); have := texts_eqW _ _ b.n K L V (hn.later mStrW hK hbw) (hn2.later mStrW hL hbw) (hKV _ hbw) (hLV _ hbw); rw [hn4] at this; exact this
 have hbig : n2 ≤ 140737488355328 ∧ n3 ≤ 140737488355328 ∧ n5 ≤ 140737488355328 := by
  obtain ⟨_, _, _, ⟨h1, _⟩, _⟩ := hg
  obtain ⟨_, _, _, ⟨h2, _⟩, _⟩ := hi
  obtain ⟨_, _, _, ⟨h3, _⟩, _⟩ := hk
  omega
 have HLG : Hid (∀ V, Below w.heap.size w V → ListIs rInt 1 8 K V (.slice pg n2 cg) b.g ∧ ListIs rInt 1 8 L V (.slice pg2 n2 cg2) b.g) := fun V hV => by
  have h1 := hg.later mInt hK hV
  have h2 := hg2.later mInt hL hV
  rw [hn2'] at h1 h2
  exact ⟨h1, h2⟩
 have HLK : Hid (∀ V, Below w.heap.size w V → ListIs rKnd 1 1 K V (.slice pk n5 ck) b.k ∧ ListIs rKnd 1 1 L V (.slice pk2 n5 ck2) b.k) := fun V hV => by
  have h1 := hk.later mKnd hK hV
  have h2 := hk2.later mKnd hL hV
  rw [hn5] at h1 h2
  exact ⟨h1, h2⟩
 have HLI : Hid (∀ V, Below w.heap.size w V → ListIs rItmW 2 32 K V (.slice pi n3 ci) b.i ∧ ListIs rItmW 2 32 L V (.slice pi2 n3 ci2) b.i) := fun V hV => by
  have h1 := hi.later mItmW hK hV
  have h2 := hi2.later mItmW hL hV
  rw [hn3] at h1 h2
  exact ⟨h1, h2⟩
 have HKV := hid hKV
 have HLV := hid hLV
 have HBG := hid hbig
 have a0 := cell_of_row (k := 0) (v := .string t0) g0 rfl
 have b0 := cell_of_row (k := 0) (v := .string t0) g1 rfl
 have a1 := cell_of_row (k := 1) (v := .string t1) g0 rfl
 have b1 := cell_of_row (k := 1) (v := .string t1) g1 rfl
 have a2 := cell_of_row (k := 2) (v := .int .i64 bd) g0 rfl
 have b2 := cell_of_row (k := 2) (v := .int .i64 bd) g1 rfl
 have a3 := cell_of_row (k := 3) (v := .int .i64 ba) g0 rfl
 have b3 := cell_of_row (k := 3) (v := .int .i64 ba) g1 rfl
 have a4 := cell_of_row (k := 4) (v := .int .i64 bb) g0 rfl
 have b4 := cell_of_row (k := 4) (v := .int .i64 bb) g1 rfl
 have a5 := cell_of_row (k := 5) (v := .slice pw n1 cw) g0 rfl
 have b5 := cell_of_row (k := 5) (v := .slice pw2 n1 cw2) g1 rfl
 have a8 := cell_of_row (k := 8) (v := .bool br) g0 rfl
 have b8 := cell_of_row (k := 8) (v := .bool br) g1 rfl
 rw [hA, hB]
 clear hw hg hi hn hk hw2 hg2 hi2 hn2 hk2 hK hL hKV hLV ht0 ht1 hbd hba hbb hbr hn1 hn2' hn3 hn4 hn5 hA hB hb0 g0 g1 hz0 hbig
 go_enter func11, ntmps11
 go_wp2_with fail
 refine CS.out.mono ?_
 rintro e w1 ⟨rfl, hb1⟩
 obtain ⟨k0, k1, _⟩ := HG.out w1 hb1
 have a9 := cell_of_row (k := 9) (v := .slice pn n4 cn) k0 rfl
 have b9 := cell_of_row (k := 9) (v := .slice pn2 n4 cn2) k1 rfl
 have C2 := hid (CT.out w1 hb1)
 have HB1 := hid hb1
 clear CS CT hb1 k0 k1 a0 a1 a2 a3 a4 a5 a8 b0 b1 b2 b3 b4 b5 b8 hW0
 go_wp2_with fail
 refine C2.out.mono ?_
 rintro e w2 ⟨rfl, hb2⟩
 have hbw2 : Below W0.heap.size W0 w2 := HB1.out.trans (hb2.mono HB1.out.size)
 obtain ⟨k0, k1, _⟩ := HG.out w2 hbw2
 have a6 := cell_of_row (k := 6) (v := .slice pg n2 cg) k0 rfl
 have b6 := cell_of_row (k := 6) (v := .slice pg2 n2 cg2) k1 rfl
 have a7 := cell_of_row (k := 7) (v := .slice pi n3 ci) k0 rfl
 have b7 := cell_of_row (k := 7) (v := .slice pi2 n3 ci2) k1 rfl
 have a10 := cell_of_row (k := 10) (v := .slice pk n5 ck) k0 rfl
 have b10 := cell_of_row (k := 10) (v := .slice pk2 n5 ck2) k1 rfl
 have HB2 := hid hbw2
 clear C2 hb2 hbw2 k0 k1 a9 b9 HB1
 go_wp2_with fail
 go_loopg [5, 92] n2 (fun gf s5 s92 wx => ∃ i : Nat, s92 = .int .i64 i ∧ i ≤ n2 ∧ n2 ≤ i + gf ∧ Hid (Below W0.heap.size W0 wx))
 case atStart => exact ⟨0, rfl, by omega, by have := HBG; omega, HB2⟩
 case round =>
  clear HB2
  obtain ⟨i, rfl, hi1, hgf, HB⟩ := hrel
  obtain ⟨k0, k1, hbw⟩ := HG.out wr HB.out
  by_cases hi : i < n2
  · obtain ⟨g', rfl⟩ : ∃ g', gk = g' + 1 := ⟨gk - 1, by omega⟩
    have hil : i < b.g.length := by rw [HN.out.1]; exact hi
    obtain ⟨h1, h2⟩ := HLG.out wr hbw
    obtain ⟨bx, ox, hp1, -, hc⟩ := cell_list h1 (by omega)
    obtain ⟨by2, oy, hp2, -, hc'⟩ := cell_list h2 (by omega)
    subst hp1
    subst hp2
    obtain ⟨cs1, hr1, hq1⟩ := hc i hil
    obtain ⟨cs2, hr2, hq2⟩ := hc' i hil
    obtain ⟨y, hy⟩ : ∃ y, b.g[i] = y := ⟨_, rfl⟩
    rw [hy] at hq1 hq2
    rw [hq1] at hr1
    rw [hq2] at hr2
    have hbn : n2 ≤ 140737488355328 := by have := HBG.out; omega
    have c0 := hr1 0 _ rfl
    have e0 := hr2 0 _ rfl
    simp only [Nat.add_zero, Nat.mul_one] at c0 e0
    have x6 := cell_of_row (k := 6) (v := .slice (some ⟨bx, ox, none⟩) n2 cg) k0 rfl
    have y6 := cell_of_row (k := 6) (v := .slice (some ⟨by2, oy, none⟩) n2 cg2) k1 rfl
    have z0 : (0 : Int) ≤ (i : Int) := by omega
    have z1 : (i : Int) < (n2 : Int) := by omega
    have hbb := HB.out
    clear HB k0 k1 hbw h1 h2 hc hc' hr1 hr2 hq1 hq2 hy hil
    go_wp2_with fail
    go_quiet (fail)
    go_wp2_with fail
    go_roundg g'
    case measure => omega
    case rel => exact ⟨i + 1, by go_num, by omega, by omega, below_drewN hbb _⟩
  · have z1 : ¬ (i : Int) < (n2 : Int) := by omega
    obtain ⟨w3, hw3⟩ : ∃ V, V = wr := ⟨_, rfl⟩
    subst hw3
    have HB3 : Hid (Below W0.heap.size W0 w3) := HB.out
    have q10 := cell_of_row (k := 10) (v := .slice pk n5 ck) k0 rfl
    have p10 := cell_of_row (k := 10) (v := .slice pk2 n5 ck2) k1 rfl
    clear HB k0 k1 hbw a6 b6 a7 b7 a10 b10
    go_wp2_with fail
    go_loopg [6, 110] n5 (fun gf s5 s92 wx => ∃ i : Nat, s92 = .int .i64 i ∧ i ≤ n5 ∧ n5 ≤ i + gf ∧ Hid (Below W0.heap.size W0 wx))
    case atStart => exact ⟨0, rfl, by omega, by have := HBG; omega, HB3⟩
    case round =>
     clear HB3
     obtain ⟨i, rfl, hi1, hgf, HB⟩ := hrel
     obtain ⟨k0, k1, hbw⟩ := HG.out wr HB.out
     by_cases hi : i < n5
     · obtain ⟨g', rfl⟩ : ∃ g', gk = g' + 1 := ⟨gk - 1, by omega⟩
       have hil : i < b.k.length := by rw [HN.out.2.2]; exact hi
       obtain ⟨h1, h2⟩ := HLK.out wr hbw
       obtain ⟨bx, ox, hp1, -, hc⟩ := cell_list h1 (by omega)
       obtain ⟨by2, oy, hp2, -, hc'⟩ := cell_list h2 (by omega)
       subst hp1
       subst hp2
       obtain ⟨cs1, hr1, hq1⟩ := hc i hil
       obtain ⟨cs2, hr2, hq2⟩ := hc' i hil
       obtain ⟨y, hy⟩ : ∃ y, b.k[i] = y := ⟨_, rfl⟩
       rw [hy] at hq1 hq2
       rw [hq1.1] at hr1
       rw [hq2.1] at hr2
       have hbn : n5 ≤ 140737488355328 := by have := HBG.out; omega
       have c0 := hr1 0 _ rfl
       have e0 := hr2 0 _ rfl
       simp only [Nat.add_zero, Nat.mul_one] at c0 e0
       have x10 := cell_of_row (k := 10) (v := .slice (some ⟨bx, ox, none⟩) n5 ck) k0 rfl
       have y10 := cell_of_row (k := 10) (v := .slice (some ⟨by2, oy, none⟩) n5 ck2) k1 rfl
       have z0 : (0 : Int) ≤ (i : Int) := by omega
       have z1 : (i : Int) < (n5 : Int) := by omega
       have hbb := HB.out
       clear HB k0 k1 hbw h1 h2 hc hc' hr1 hr2 hq1 hq2 hy hil
       go_wp2_with fail
       go_quiet (fail)
       go_wp2_with fail
       go_roundg g'
       case measure => omega
       case rel => exact ⟨i + 1, by go_num, by omega, by omega, below_drewN hbb _⟩
     · have z1 : ¬ (i : Int) < (n5 : Int) := by omega
       obtain ⟨w4, hw3⟩ : ∃ V, V = wr := ⟨_, rfl⟩
       subst hw3
       have HB4 : Hid (Below W0.heap.size W0 w4) := HB.out
       have q10 := cell_of_row (k := 7) (v := .slice pi n3 ci) k0 rfl
       have p10 := cell_of_row (k := 7) (v := .slice pi2 n3 ci2) k1 rfl
       clear HB k0 k1 hbw 
       go_wp2_with fail
       go_loopg [7, 128] n3 (fun gf s7 s128 wx => ∃ i : Nat, s128 = .int .i64 i ∧ i ≤ n3 ∧ n3 ≤ i + gf ∧ Hid (Below W0.heap.size W0 wx))
       case atStart => exact ⟨0, rfl, by omega, by omega, HB4⟩
       case round =>
        clear HB4 q10 p10
        obtain ⟨i, rfl, hi1, hgf, HB⟩ := hrel
        obtain ⟨k0, k1, hbw⟩ := HG.out wr HB.out
        by_cases hi : i < n3
        · obtain ⟨g', rfl⟩ : ∃ g', gk = g' + 1 := ⟨gk - 1, by omega⟩
          have hil : i < b.i.length := by rw [HN.out.2.1]; exact hi
          have hkr := HKV.out wr hbw
          have hlr := HLV.out wr hbw
          obtain ⟨h1, h2⟩ := HLI.out wr hbw
          obtain ⟨bx, ox, hp1, hKb, hc⟩ := itm_w h1 (by omega)
          obtain ⟨by2, oy, hp2, hLb, hc'⟩ := itm_w h2 (by omega)
          subst hp1
          subst hp2
          obtain ⟨u1, f1, hr1, hl1, -⟩ := hc i hil
          obtain ⟨u2, f2, hr2, hl2, -⟩ := hc' i hil
          obtain ⟨y, hy⟩ : ∃ y, b.i[i] = y := ⟨_, rfl⟩
          rw [hy] at hr1 hl1 hr2 hl2
          have n5' : ((y.g : Int) != (y.g : Int)) = false := by simp
          have cS : Hid (∀ p : LaterS wr.heap.size wr, Calls prog 24 #[.slice u1 y.e.length f1, .slice u2 y.e.length f2] p.w fun e w' => e = .returned (.bool true) ∧ Below p.w.heap.size p.w w') := fun p =>
           steps_eqW _ _ y.e K L p.w (hl1.later mStpW hkr p.h) (hl2.later mStpW hlr p.h) (fun b hb => nlt (hkr b hb) p.h.size) (fun b hb => nlt (hlr b hb) p.h.size)
          have c0 : ∀ p : LaterS wr.heap.size wr, p.w.cell? ⟨bx, ox + i * 2, none⟩ = some (.int .u8 (y.g : Int)) := fun p => (p.h.cell (p := ⟨bx, _, none⟩) (hkr _ hKb)).trans (hr1 0 _ rfl)
          have c1 : ∀ p : LaterS wr.heap.size wr, p.w.cell? ⟨bx, ox + i * 2 + 1, none⟩ = some (.slice u1 y.e.length f1) := fun p => (p.h.cell (p := ⟨bx, _, none⟩) (hkr _ hKb)).trans (hr1 1 _ rfl)
          have e0 : ∀ p : LaterS wr.heap.size wr, p.w.cell? ⟨by2, oy + i * 2, none⟩ = some (.int .u8 (y.g : Int)) := fun p => (p.h.cell (p := ⟨by2, _, none⟩) (hlr _ hLb)).trans (hr2 0 _ rfl)
          have e1 : ∀ p : LaterS wr.heap.size wr, p.w.cell? ⟨by2, oy + i * 2 + 1, none⟩ = some (.slice u2 y.e.length f2) := fun p => (p.h.cell (p := ⟨by2, _, none⟩) (hlr _ hLb)).trans (hr2 1 _ rfl)
          have m0 : ∀ p : LaterS wr.heap.size wr, p.w.cell? ⟨w.heap.size, 7, none⟩ = some (.slice (some ⟨bx, ox, none⟩) n3 ci) := fun p => cell_of_row (k := 7) (HG.out p.w (HB.out.trans (p.h.mono HB.out.size))).1 rfl
          have m1 : ∀ p : LaterS wr.heap.size wr, p.w.cell? ⟨w.heap.size + 1, 7, none⟩ = some (.slice (some ⟨by2, oy, none⟩) n3 ci2) := fun p => cell_of_row (k := 7) (HG.out p.w (HB.out.trans (p.h.mono HB.out.size))).2.1 rfl
          have z0 : (0 : Int) ≤ (i : Int) := by omega
          have z1 : (i : Int) < (n3 : Int) := by omega
          have hbn : n3 ≤ 140737488355328 := by have := HBG.out; omega
          have HB5 : Hid (Below W0.heap.size W0 wr) := HB.out
          clear hc hc' hr1 hr2 hl1 hl2 hy HB hKb hLb hkr hlr hbw k0 k1 hil h1 h2
          go_wp2_with fail
          have inhL := laterInh
          refine wp_region_laterS mixedOnS (by kernel_rfl) ?_
          repeat (go_big_quiet_step ((go_at_call 24; exact calls_laterS (cS.out _))))
          refine wpQuiet_nil ?_
          intro w5 hw'
          obtain ⟨⟨wq, hwq⟩, hw''⟩ := hw'
          subst hw''
          go_wp2_with fail
          go_roundg g'
          case measure => omega
          case rel => exact ⟨i + 1, by go_num, by omega, by omega, HB5.out.trans (hwq.mono HB5.out.size)⟩
        · have z1 : ¬ (i : Int) < (n3 : Int) := by omega
          have HBW := hid hbw
          clear HB k0 k1 hbw
          go_wp2_with fail
          go_ret
          exact ⟨rfl, HBW.out⟩
theorem rfind_any (K : Nat → Prop) (q : Option Addr) (c : Nat) (l : List Tab) (n : List UInt8) (w : World) (h : ListIs rTab 3 64 K w (.slice q l.length c) l) (hK : ∀ b, K b → b < w.heap.size) :
 Calls prog 32 #[.slice q l.length c, .string ⟨n.toArray⟩] w fun e w' => FoundV K l n w' e ∧ Below w.heap.size w w' := by
 obtain ⟨s, hs⟩ : ∃ s : ByteArray, (⟨n.toArray⟩ : ByteArray) = s := ⟨_, rfl⟩
 have HST : Hid (s.toList = n) := by show _ = _; rw [← hs]; simp [Lib.toList_data]
 obtain ⟨W0, hW0⟩ : ∃ W, w.alloc (.cells #[.string ⟨#[]⟩, .slice none 0 0, .slice none 0 0] 56) = W := ⟨_, rfl⟩
 have hb0 : Below w.heap.size w W0 := by rw [← hW0]; exact below_alloc _ _
 have hg0 : W0.heap[w.heap.size]? = some (.cells #[.string ⟨#[]⟩, .slice none 0 0, .slice none 0 0] 56 (0, 0)) := by rw [← hW0]; exact heap_alloc_new w _
 have hz0 : W0.heap.size = w.heap.size + 1 := by rw [← hW0]; simp
 have hbig : l.length ≤ 140737488355328 := by
  obtain ⟨q', c', -, ⟨hb, -⟩, -⟩ := h
  omega
 have HL := hid h
 have HK := hid hK
 obtain ⟨N, hN⟩ : ∃ N, l.length = N := ⟨_, rfl⟩
 have HN := hid hN
 have hN47 : N ≤ 140737488355328 := by omega
 have HG0 : Hid (∀ V, Below W0.heap.size W0 V → V.heap[w.heap.size]? = some (.cells #[.string ⟨#[]⟩, .slice none 0 0, .slice none 0 0] 56 (0, 0)) ∧ Below w.heap.size w V) := fun V hV => ⟨(hV.block _ (by omega)).trans hg0, hb0.trans (hV.mono (by omega))⟩
 rw [hs, hN]
 clear h hK hN hb0 hg0 hs hbig
 go_enter func32, ntmps32
 go_wp2_with (rw [hW0])
 have HZ0 := hid hz0
 clear hz0
 go_loopg [10] N (fun gf s10 wx => ∃ i : Nat, s10 = .int .i64 i ∧ i ≤ N ∧ N ≤ i + gf ∧ Hid (Below W0.heap.size W0 wx) ∧ Hid (findP (l.take i) n = none))
 case atStart => exact ⟨0, rfl, by omega, by omega, Below.refl _ _, rfl⟩
 case round =>
  clear hW0
  obtain ⟨i, rfl, hi1, hgf, HB, HF⟩ := hrel
  obtain ⟨hgS, hbw⟩ := HG0.out wr HB.out
  by_cases hi : i < N
  · obtain ⟨g', rfl⟩ : ∃ g', gk = g' + 1 := ⟨gk - 1, by omega⟩
    have hil : i < l.length := by rw [HN.out]; exact hi
    have hli := HL.out.mono mTab (fun _ h => h) (kept_of HK.out hbw)
    rw [HN.out] at hli
    obtain ⟨b, o, hq, hKb, hc⟩ := tab_at hli (by omega)
    subst hq
    obtain ⟨pc, cc, pr, nr, cr, hrg, hcl, hn⟩ := hc i hil
    obtain ⟨t, ht⟩ : ∃ t, l[i] = t := ⟨_, rfl⟩
    have hat := fun (h : isNamed n l[i] = true) => find_at hil HF.out h
    have hnx := fun (h : isNamed n l[i] = false) => find_next hil HF.out h
    rw [ht] at hrg hcl hn hat hnx
    obtain ⟨M, hM⟩ : ∃ M, t.c.length = M := ⟨_, rfl⟩
    obtain ⟨ts, hts⟩ : ∃ ts : ByteArray, (⟨t.n.toArray⟩ : ByteArray) = ts := ⟨_, rfl⟩
    have hnm : isNamed n t = (ts.toList == s.toList) := by
     unfold isNamed
     rw [HST.out, ← hts]
     simp [Lib.toList_data]
    obtain ⟨F, hF⟩ : ∃ F, (ts.toList == s.toList) = F := ⟨_, rfl⟩
    rw [hnm, hF] at hat hnx
    have HE : Hid (Ending.returned (.tuple #[.agg #[.string ts, .slice pc M cc, .slice pr nr cr], .bool true]) = .returned (.tuple #[.agg #[.string ⟨t.n.toArray⟩, .slice pc t.c.length cc, .slice pr nr cr], .bool true])) := by show _ = _; rw [hts, hM]
    rw [hM, hts] at hrg
    have HRG := hid hrg
    obtain ⟨WA, hWA, hth, V1, hV1, hgQ, hbV⟩ := box_any wr 56 #[.string ⟨#[]⟩, .slice none 0 0, .slice none 0 0] [.string ts, .slice pc M cc, .slice pr nr cr] rfl
    have HTH := hid hth
    have HV1 : Hid (WA.setCells wr.heap.size 0 (#[.string ts, .slice pc M cc, .slice pr nr cr] : Array Value).toList = V1) := hV1
    have HON : Hid ((#[.string ts, .slice pc M cc, .slice pr nr cr] : Array Value).all (·.oneCell') = true) := by show _ = _; simp [Value.oneCell']
    have d0 := cell_of_row (k := 0) (v := .string ts) hgQ rfl
    have HRQ : Hid (V1.rangeAt wr.heap.size 0 [.string ts, .slice pc M cc, .slice pr nr cr]) := rgz hgQ
    have HBV : Hid (Below W0.heap.size W0 V1) := HB.out.trans (hbV.mono HB.out.size)
    have z0 : (0 : Int) ≤ (i : Int) := by omega
    have z1 : (i : Int) < (N : Int) := by omega
    have HHAT := hid hat
    have HHNX := hid hnx
    have HCL := hid hcl
    have HTN := hid hn
    have hgl : wr.heap.size < V1.heap.size := (gsi hgQ).1
    have HKV : Hid (∀ b, K b → b < wr.heap.size) := fun b hb => nlt (HK.out b hb) hbw.size
    have HBVV := hid hbV
    clear hc hil hli hrg hcl hn ht hat hnx hM hts hnm hth hV1 hgQ hbV hgS hbw hKb
    cases F with
    | true =>
     obtain ⟨hgS, hbw⟩ := HG0.out V1 HBV.out
     obtain ⟨hth, X, hX, hld, hsX, hkX⟩ := put_row V1 w.heap.size _ 56 hgS [.string ts, .slice pc M cc, .slice pr nr cr] rfl underlying56 rfl sz_tab
     have HT2 : Hid (V1.there w.heap.size 0 3) := hth
     have HWX : Hid (V1.setCells w.heap.size 0 (#[.string ts, .slice pc M cc, .slice pr nr cr] : Array Value).toList = X) := hX
     have HLD : Hid ((loadVar 56 ⟨w.heap.size, 0, none⟩).run prog X = .ok (.agg #[.string ts, .slice pc M cc, .slice pr nr cr]) X) := hld
     have HFX : Hid (Below w.heap.size w X) := ⟨hkX.os.trans hbw.os, hkX.tape.trans hbw.tape, hkX.output.trans hbw.output, by have := hbw.size; omega, fun b h => (hkX.block b (by show b ≠ _; omega)).trans (hbw.block b h)⟩
     have HKX : Hid (ListIs rClm 2 24 K X (.slice pc t.c.length cc) t.c) := (HCL.out.later mClm HKV.out HBVV.out).mono mClm (fun _ h => h) (hkX.less fun b hb => by have := HK.out b hb; show b ≠ _; omega)
     clear hth hX hld hsX hkX hgS hbw hgl
     go_wp2_with (first | (refine wpList_load_mid rfl 56 _ rfl b (o + i * 3) rfl _ _ HRG.out underlying56 rfl sz_tab ?_) | (refine wpList_store_mid rfl 56 _ _ rfl wr.heap.size 0 #[.string ts, .slice pc M cc, .slice pr nr cr] rfl rfl HTH.out sz_tab HON.out ?_; rw [show WA.setCells wr.heap.size 0 (#[.string ts, .slice pc M cc, .slice pr nr cr] : Array Value).toList = V1 from HV1.out]) | (refine wpList_load_mid rfl 56 _ rfl wr.heap.size 0 rfl _ _ HRQ.out underlying56 rfl sz_tab ?_) | (refine wpList_store_mid rfl 56 _ _ rfl w.heap.size 0 #[.string ts, .slice pc M cc, .slice pr nr cr] rfl rfl HT2.out sz_tab HON.out ?_; rw [HWX.out]))
     refine bodyPost_ret (v := .tuple #[.agg #[.string ts, .slice pc M cc, .slice pr nr cr], .bool true]) (by simp only [results, results32]; simp [asAddr, Act.put, HLD.out]) rfl ?_
     exact ⟨.inr ⟨t, pc, cc, pr, nr, cr, HHAT.out (by simp), HE.out, HKX.out, HTN.out⟩, HFX.out⟩
    | false =>
     clear hgl
     go_wp2_with (first | (refine wpList_load_mid rfl 56 _ rfl b (o + i * 3) rfl _ _ HRG.out underlying56 rfl sz_tab ?_) | (refine wpList_store_mid rfl 56 _ _ rfl wr.heap.size 0 #[.string ts, .slice pc M cc, .slice pr nr cr] rfl rfl HTH.out sz_tab HON.out ?_; rw [show WA.setCells wr.heap.size 0 (#[.string ts, .slice pc M cc, .slice pr nr cr] : Array Value).toList = V1 from HV1.out]))
     go_roundg g'
     case measure => omega
     case rel => exact ⟨i + 1, by go_num, by omega, by omega, HBV, HHNX.out (by simp)⟩
  · have z1 : ¬ (i : Int) < (N : Int) := by omega
    have hnone : findP l n = none := by
     have := HF.out
     rwa [List.take_of_length_le (by rw [HN.out]; omega)] at this
    have HNO := hid hnone
    obtain ⟨hth, X, hX, hld, hsX, hkX⟩ := put_row wr w.heap.size _ 56 hgS [.string ⟨#[]⟩, .slice none 0 0, .slice none 0 0] rfl underlying56 rfl sz_tab
    have HT2 : Hid (wr.there w.heap.size 0 3) := hth
    have HWX : Hid (wr.setCells w.heap.size 0 (#[.string ⟨#[]⟩, .slice none 0 0, .slice none 0 0] : Array Value).toList = X) := hX
    have HLD : Hid ((loadVar 56 ⟨w.heap.size, 0, none⟩).run prog X = .ok (.agg #[.string ⟨#[]⟩, .slice none 0 0, .slice none 0 0]) X) := hld
    have HON : Hid ((#[.string ⟨#[]⟩, .slice none 0 0, .slice none 0 0] : Array Value).all (·.oneCell') = true) := by show _ = _; simp [Value.oneCell']
    have HFX : Hid (Below w.heap.size w X) := ⟨hkX.os.trans hbw.os, hkX.tape.trans hbw.tape, hkX.output.trans hbw.output, by have := hbw.size; omega, fun b h => (hkX.block b (by show b ≠ _; omega)).trans (hbw.block b h)⟩
    clear hth hX hld hsX hkX hgS hbw HB HF hnone
    go_wp2_with (refine wpList_store_mid rfl 56 _ _ rfl w.heap.size 0 #[.string ⟨#[]⟩, .slice none 0 0, .slice none 0 0] rfl rfl HT2.out sz_tab HON.out ?_; rw [HWX.out])
    refine bodyPost_ret (v := .tuple #[.agg #[.string ⟨#[]⟩, .slice none 0 0, .slice none 0 0], .bool false]) (by simp only [results, results32]; simp [asAddr, Act.put, HLD.out]) rfl ?_
    exact ⟨.inl ⟨HNO.out, rfl⟩, HFX.out⟩
open Go.RowKit Go.Lib
def colsAt (l : List Tab) (n : List UInt8) : List Clm := ((findP l n).map Tab.c).getD []
def colsB (l : List Tab) (t j : List UInt8) : List Clm := colsAt l t ++ colsAt l j
theorem find_nil {l : List Tab} (hc : catP l = 0) : findP l [] = none := by
 unfold findP
 rw [List.find?_eq_none]
 intro t ht h
 have hn : t.n = [] := by unfold isNamed at h; simpa using h
 have := (tab_cols ((cat_in hc).2 t ht)).1
 rw [hn] at this
 exact absurd this (by decide)
theorem cols_scope {l : List Tab} {t j : List UInt8} {s : Scp} (hc : catP l = 0) (h : scopeP t j l = some s) : colsB l t j = s.c := by
 unfold scopeP at h
 unfold colsB colsAt
 split at h
 · cases h
 · rename_i a ha
   rw [ha]
   split at h
   · rename_i hj
     cases h
     rw [hj, find_nil hc]
     simp
   · split at h
     · cases h
     · rename_i b hb
       cases h
       rw [hb]
       rfl
theorem cols_small {l : List Tab} (hc : catP l = 0) (n : List UInt8) : (colsAt l n).length ≤ 8 := by
 unfold colsAt
 cases h : findP l n with
 | none => simp
 | some t =>
  have := (tab_cols ((cat_in hc).2 t (find_in h).1)).2.2.1
  simpa using this
theorem right_kinds {b : Bnd} {l : List Tab} (h : rightBP b l = true) :
 catP l = 0 ∧ (∀ i (hi : i < b.i.length) (hk : i < b.k.length), (b.i[i].g = 1 → (kindP b.i[i].e (colsB l b.t b.j)).2 = 13 ∧ b.k[i] = 2) ∧ (b.i[i].g ≠ 1 → (kindP b.i[i].e (colsB l b.t b.j)).2 = 0 ∧ (b.i[i].g ≠ 2 → b.k[i] = (kindP b.i[i].e (colsB l b.t b.j)).1))) ∧ (b.w ≠ [] → (kindP b.w (colsB l b.t b.j)).2 = 0 ∧ ((kindP b.w (colsB l b.t b.j)).1 = 1 ∨ (kindP b.w (colsB l b.t b.j)).1 = 0)) := by
 unfold rightBP at h
 split at h
 · cases h
 rename_i hC
 have hC : catP l = 0 := by simpa using hC
 split at h
 · cases h
 rename_i s hs
 have hcs := cols_scope hC hs
 rw [hcs]
 simp only [Bool.and_eq_true] at h
 obtain ⟨_, hw, _, hi, ha⟩ := h
 refine ⟨hC, fun i hil hkl => ?_, fun hne => ?_⟩
 · have hk : b.k = b.i.map (kindI s) := by
    unfold rAnswerB at ha
    simp only [Bool.and_eq_true, decide_eq_true_eq] at ha
    exact ha.2
   have hki : b.k[i] = kindI s b.i[i] := by
    have : b.k[i]? = (b.i.map (kindI s))[i]? := by rw [← hk]
    rw [List.getElem?_eq_getElem hkl, List.getElem?_map, List.getElem?_eq_getElem hil] at this
    simpa using this
   have hE : itemE s b.i[i] b.r b.g = 0 := by
    unfold rItemsB at hi
    split at hi
    · cases hi
    · have := List.all_eq_true.1 hi b.i[i] (List.getElem_mem hil)
      simpa using this
   rw [hki]
   obtain ⟨x, hx⟩ : ∃ x, b.i[i] = x := ⟨_, rfl⟩
   rw [hx] at hE ⊢
   unfold itemE at hE
   split at hE
   · exact absurd hE (by decide)
   rename_i h1
   constructor
   · intro hg
     have hl : x.e = [] := by
      apply List.eq_nil_of_length_eq_zero
      omega
     refine ⟨?_, by unfold kindI; rw [if_pos (.inl hg)]⟩
     rw [hl]
     unfold kindP
     rw [if_pos (by decide)]
   · intro hg
     rw [if_neg hg] at hE
     split at hE
     · rename_i h2
       exact absurd hE h2
     rename_i h2
     refine ⟨by simpa using h2, fun hg2 => ?_⟩
     unfold kindI
     rw [if_neg (by omega)]
 · have hE : whereE s b.w = 0 := by
    unfold rWhereB at hw
    simp only [Bool.or_eq_true, decide_eq_true_eq] at hw
    rcases hw with hw | hw
    · exact absurd (List.eq_nil_of_length_eq_zero hw) hne
    · exact hw
   unfold whereE at hE
   split at hE
   · exact absurd hE (by decide)
   · rename_i h1
     refine ⟨hE, ?_⟩
     by_cases h2 : (kindP b.w s.c).1 = 1
     · exact .inl h2
     · exact .inr (by
        by_cases h3 : (kindP b.w s.c).1 = 0
        · exact h3
        · exact absurd ⟨hE, h2, h3⟩ h1)
theorem right_none (l : List Tab) : rightBP noBnd l = false := by
 unfold rightBP
 split
 · rfl
 · rename_i hC
   have hC : catP l = 0 := by simpa using hC
   have : scopeP noBnd.t noBnd.j l = none := by
    unfold scopeP
    rw [show noBnd.t = [] from rfl, find_nil hC]
   rw [this]
theorem colR_err {s : Scp} {t : List UInt8} {e : Int} (h : colR s t = .error e) : e ≠ 0 := by
 unfold colR oneP at h
 split at h
 · cases h
 · cases h; decide
theorem exprR_err {s : Scp} : ∀ (l : List Stp) (e : Int), exprR s l = .error e → e ≠ 0
 | [], e, h => by cases h
 | x :: l, e, h => by
  unfold exprR at h
  split at h
  · rename_i y hy
    cases h
    unfold stepR at hy
    split at hy
    · split at hy
      · rename_i z hz; cases hy; exact colR_err hz
      · cases hy
    · cases hy
  · split at h
    · rename_i m hm; cases h; exact exprR_err l _ hm
    · cases h
theorem joinB_err {s : Scp} {q : Qry} {e : Int} (h : joinB s q = .error e) : e ≠ 0 := by
 unfold joinB at h
 split at h
 · cases h
 · split at h
   · rename_i z hz
     cases h
     unfold joinR at hz
     split at hz
     · rename_i y hy; cases hz; exact colR_err hy
     · split at hz
       · rename_i y hy; cases hz; exact colR_err hy
       · split at hz
         · cases hz
         · cases hz; decide
   · cases h
theorem whereR_err {s : Scp} {l : List Stp} {e : Int} (h : whereR s l = .error e) : e ≠ 0 := by
 unfold whereR at h
 split at h
 · cases h
 · split at h
   · rename_i y hy; cases h; exact exprR_err _ _ hy
   · split at h
     · cases h
     · rename_i h0; cases h; exact h0
theorem groupGo_err {s : Scp} : ∀ (l : List (List UInt8)) (acc : List Int) (e : Int), groupGo s acc l = .error e → e ≠ 0
 | [], acc, e, h => by cases h
 | t :: l, acc, e, h => by
  unfold groupGo at h
  split at h
  · rename_i y hy; cases h; exact colR_err hy
  · split at h
    · cases h; decide
    · exact groupGo_err l _ _ h
theorem itemsGo_err {s : Scp} {gr : Bool} {g : List Int} : ∀ (l : List Itm) (e : Int), itemsGo s gr g l = .error e → e ≠ 0
 | [], e, h => by cases h
 | x :: l, e, h => by
  unfold itemsGo at h
  split at h
  · rename_i y hy
    cases h
    unfold itemR at hy
    split at hy
    · cases hy
    · split at hy
      · rename_i z hz; cases hy; exact exprR_err _ _ hz
      · cases hy
  · split at h
    · split at h
      · rename_i m hm; cases h; exact itemsGo_err l _ hm
      · cases h
    · rename_i h0; cases h; exact h0
theorem itemsR_err {s : Scp} {gr : Bool} {g : List Int} {l : List Itm} {e : Int} (h : itemsR s gr g l = .error e) : e ≠ 0 := by
 unfold itemsR at h
 split at h
 · split at h
   · cases h; decide
   · cases h
 · exact itemsGo_err _ _ h
theorem bind_err {q : Qry} {l : List Tab} {e : Int} (h : bindP q l = .error e) : e ≠ 0 := by
 unfold bindP at h
 split at h
 · rename_i h0; cases h; exact h0
 split at h
 · rename_i h0; cases h; exact h0
 unfold resolveP at h
 split at h
 · cases h; decide
 unfold resolveS at h
 split at h
 · rename_i z hz; cases h; exact joinB_err hz
 split at h
 · rename_i z hz; cases h; exact whereR_err hz
 split at h
 · rename_i z hz; cases h; exact groupGo_err _ _ _ hz
 split at h
 · rename_i z hz; cases h; exact itemsR_err hz
 · cases h
theorem info50 : ∃ i0, prog.info? 50 = some i0 ∧ i0.zero = some (.agg #[.string ⟨#[]⟩, .int .u8 0]) ∧ i0.size = 2 ∧ i0.bytes = 24 := by
 have h1 : (prog.info? 50).bind (·.zero) = some (.agg #[.string ⟨#[]⟩, .int .u8 0]) := by kernel_rfl
 have h2 : (prog.info? 50).map (fun i => (i.size, i.bytes)) = some (2, 24) := by kernel_rfl
 cases h : prog.info? 50 with
 | none => rw [h] at h2; cases h2
 | some i0 =>
  rw [h] at h1 h2
  have h3 := Option.some.inj h2
  exact ⟨i0, rfl, h1, (Prod.mk.inj h3).1, (Prod.mk.inj h3).2⟩
theorem sz_scr : (prog.info? 74).map (·.size) = some 2 := by kernel_rfl
theorem fF {α : Type} {rel : Rel α} {size : Nat} {te : TypeId} {base : Nat} {X : World} {u : Value} {xs : List α} (h : OwnK (fun _ => False) rel size te base X u xs) {b : Nat} (e : u.ownBlock = some b) : base ≤ b ∧ b < X.heap.size := by
 obtain ⟨cells, ho, _⟩ := h
 exact ho.lt b e
theorem scd_row (base S : Nat) (X : World) (a1 a2 : Option Addr) (n k1 k2 : Nat) (xs : List (List UInt8)) (ys : List Clm) (nm : List UInt8) (nS : ByteArray) (c : Clm) (cS : ByteArray) (hnS : (⟨nm.toArray⟩ : ByteArray) = nS) (hcS : (⟨c.n.toArray⟩ : ByteArray) = cS) (hS : X.heap[S]? = some (.cells ([.slice a1 n k1, .slice a2 n k2] : List Value).toArray 74 (0, 0))) (h1 : OwnK (fun _ => False) rStrW 1 9 base X (.slice a1 n k1) xs) (h2 : OwnK (fun _ => False) rClm 2 50 base X (.slice a2 n k2) ys) (hx : xs.length = n) (hy : ys.length = n) (hb : base ≤ X.heap.size) (hn : n ≤ 100) (hnm : nm.length ≤ 140737488355328) (hc : rClm (fun _ => False) X [.string cS, .int .u8 (c.k : Int)] c) :
 ∃ a3 k3 X3 X4 a5 k5 X5 X6, (Builtin.append_ #[24, 24] 24 #[.slice a1 n k1, .slice (some ⟨X.heap.size, 0, none⟩) 1 1]).run prog (X.alloc (.cells #[.string nS] 9)) = .ok (.slice a3 (n + 1) k3) X3
  ∧ ((∃ u, X3.cell? ⟨S, 0, none⟩ = some u) ∧ X3.frozen? ⟨S, 0, none⟩ = false ∧ X3.setCell ⟨S, 0, none⟩ (.slice a3 (n + 1) k3) = X4)
  ∧ X4.cell? ⟨S, 1, none⟩ = some (.slice a2 n k2)
  ∧ Kept (fun b => b < X.heap.size ∧ b ≠ S ∧ (Value.slice a1 n k1).ownBlock ≠ some b) X X4
  ∧ (Builtin.append_ #[38, 38] 38 #[.slice a2 n k2, .slice (some ⟨X4.heap.size, 0, none⟩) 1 1]).run prog (X4.alloc (.cells #[.string cS, .int .u8 (c.k : Int)] 50)) = .ok (.slice a5 (n + 1) k5) X5
  ∧ ((∃ u, X5.cell? ⟨S, 1, none⟩ = some u) ∧ X5.frozen? ⟨S, 1, none⟩ = false ∧ X5.setCell ⟨S, 1, none⟩ (.slice a5 (n + 1) k5) = X6)
  ∧ X6.heap[S]? = some (.cells ([.slice a3 (n + 1) k3, .slice a5 (n + 1) k5] : List Value).toArray 74 (0, 0))
  ∧ OwnK (fun _ => False) rStrW 1 9 base X6 (.slice a3 (n + 1) k3) (xs ++ [nm]) ∧ OwnK (fun _ => False) rClm 2 50 base X6 (.slice a5 (n + 1) k5) (ys ++ [c])
  ∧ Kept (fun b => b < X.heap.size ∧ b ≠ S ∧ (Value.slice a1 n k1).ownBlock ≠ some b ∧ (Value.slice a2 n k2).ownBlock ≠ some b) X X6 := by
 obtain ⟨i9, hi9, hz9, hs9, hb9⟩ := inE_str
 obtain ⟨i50, hi50, hz50, hs50, hb50⟩ := info50
 obtain ⟨v3, X3, e3, ho3, hk3⟩ := h1.push mStrW (bytes := 16) (ts := 24) underlying24 hi9 hz9 hs9 hb9 rfl (by omega) hb (x := nm) (cs := [.string nS]) rfl (by intro c hc; simp at hc; subst hc; rfl) (fun b hb => hb.elim) ⟨by rw [hnS], hnm⟩ (by rw [hx]; omega) (by rw [hx]; unfold maxLen; omega)
 obtain ⟨a3, k3, ev⟩ := ownF_slice ho3
 rw [List.length_append, hx] at ev
 have ev2 : v3 = .slice a3 (n + 1) k3 := ev
 subst ev2
 have hSl : S < X.heap.size := (gsi hS).1
 have hS3 := (hk3.block S ⟨hSl, own_type h1 hS (by decide)⟩).trans hS
 obtain ⟨q1, q2, X4, hX4, hS4, hz4, hk4⟩ := put_one X3 S 0 _ 74 hS3 (by simp) (.slice a3 (n + 1) k3)
 have h2b : OwnK (fun _ => False) rClm 2 50 base X3 (.slice a2 n k2) ys := own_keep fClm h2 fun g cur hg => hk3.block g ⟨(gsi hg).1, own_type h1 hg (by decide)⟩
 have ho4 : OwnK (fun _ => False) rStrW 1 9 base X4 (.slice a3 (n + 1) k3) (xs ++ [nm]) := own_keep fStrW ho3 fun g cur hg => hk4.block g (fun e => by subst e; exact blk_ne hg hS3 (by decide) rfl)
 have h2c : OwnK (fun _ => False) rClm 2 50 base X4 (.slice a2 n k2) ys := own_keep fClm h2b fun g cur hg => hk4.block g (fun e => by subst e; exact blk_ne hg hS3 (by decide) rfl)
 have hb4 : base ≤ X4.heap.size := by have := hk3.size; omega
 obtain ⟨v5, X5, e5, ho5, hk5⟩ := h2c.push mClm (bytes := 24) (ts := 38) underlying38 hi50 hz50 hs50 hb50 rfl (by omega) hb4 (x := c) (cs := [.string cS, .int .u8 (c.k : Int)]) rfl (by intro c hc; simp at hc; rcases hc with rfl | rfl <;> rfl) (fun b hb => hb.elim) (fClm.1 _ _ _ _ _ _ hc) (by rw [hy]; omega) (by rw [hy]; unfold maxLen; omega)
 obtain ⟨a5, k5, ev⟩ := ownF_slice ho5
 rw [List.length_append, hy] at ev
 have ev2 : v5 = .slice a5 (n + 1) k5 := ev
 subst ev2
 have hS4l : S < X4.heap.size := (gsi hS4).1
 have hS5 := (hk5.block S ⟨hS4l, own_type h2c hS4 (by decide)⟩).trans hS4
 obtain ⟨r1, r2, X6, hX6, hS6, hz6, hk6⟩ := put_one X5 S 1 _ 74 hS5 (by simp) (.slice a5 (n + 1) k5)
 have hkA : Kept (fun b => b < X.heap.size ∧ b ≠ S ∧ (Value.slice a1 n k1).ownBlock ≠ some b) X X4 := (hk3.less fun b hb => ⟨hb.1, hb.2.2⟩).trans (hk4.less fun b hb => hb.2.1)
 refine ⟨a3, k3, X3, X4, a5, k5, X5, X6, e3, ⟨q1, q2, hX4⟩, cell_of_row hS4 (by simp), hkA, e5, ⟨r1, r2, hX6⟩, hS6, ?_, ?_, ?_⟩
 · refine own_keep fStrW ho4 fun g cur hg => ?_
   have hgl := (gsi hg).1
   have h5 := hk5.block g ⟨hgl, own_type h2c hg (by decide)⟩
   exact (hk6.block g (fun e => by subst e; exact blk_ne hg hS4 (by decide) rfl)).trans h5
 · exact own_keep fClm ho5 fun g cur hg => hk6.block g (fun e => by subst e; exact blk_ne hg hS5 (by decide) rfl)
 · have hkB : Kept (fun b => b < X.heap.size ∧ b ≠ S ∧ (Value.slice a1 n k1).ownBlock ≠ some b ∧ (Value.slice a2 n k2).ownBlock ≠ some b) X4 X5 := hk5.less fun b hb => ⟨by have := hkA.size; omega, hb.2.2.2⟩
   exact ((hkA.less fun b hb => ⟨hb.1, hb.2.1, hb.2.2.1⟩).trans hkB).trans (hk6.less fun b hb => hb.2.1)
def namesT (t : Tab) : List (List UInt8) := t.c.map fun _ => t.n
def ScdE (ta tb : Tab) (B : Nat) (w' : World) (e : Ending) : Prop := ∃ p1 c1 p2 c2, e = .returned (.agg #[.slice p1 (ta.c ++ tb.c).length c1, .slice p2 (ta.c ++ tb.c).length c2]) ∧ ListIs rStrW 1 16 (From B w') w' (.slice p1 (ta.c ++ tb.c).length c1) (namesT ta ++ namesT tb) ∧ ListIs rClm 2 24 (From B w') w' (.slice p2 (ta.c ++ tb.c).length c2) (ta.c ++ tb.c)
def doneN (l : List Tab) : List (List UInt8) := l.flatMap namesT
def doneC (l : List Tab) : List Clm := l.flatMap Tab.c
theorem done_len (l : List Tab) : (doneN l).length = (doneC l).length := by
 induction l with
 | nil => rfl
 | cons t l ih =>
  show (namesT t ++ doneN l).length = (t.c ++ doneC l).length
  rw [List.length_append, List.length_append, ih]
  simp [namesT]
theorem done_next {l : List Tab} {i : Nat} (h : i < l.length) : doneN (l.take (i + 1)) = doneN (l.take i) ++ namesT l[i] ∧ doneC (l.take (i + 1)) = doneC (l.take i) ++ l[i].c := by
 unfold doneN doneC
 rw [List.take_succ_eq_append_getElem h, List.flatMap_append, List.flatMap_append, List.flatMap_cons, List.flatMap_nil, List.append_nil, List.flatMap_cons, List.flatMap_nil, List.append_nil]
 exact ⟨rfl, rfl⟩
theorem names_step {t : Tab} {k : Nat} (h : k < t.c.length) : (namesT t).take (k + 1) = (namesT t).take k ++ [t.n] ∧ t.c.take (k + 1) = t.c.take k ++ [t.c[k]] := by
 constructor
 · rw [List.take_succ_eq_append_getElem (by simpa [namesT] using h)]
   simp [namesT]
 · exact List.take_succ_eq_append_getElem h
theorem scoped_any (K : Nat → Prop) (ta tb : Tab) (pa pb ra rb : Option Addr) (ca na xa cb nb xb : Nat) (w : World) (ha : ListIs rClm 2 24 K w (.slice pa ta.c.length ca) ta.c) (hb : ListIs rClm 2 24 K w (.slice pb tb.c.length cb) tb.c) (hK : ∀ b, K b → b < w.heap.size) (h8a : ta.c.length ≤ 8) (h8b : tb.c.length ≤ 8) (hna : ta.n.length ≤ 140737488355328) (hnb : tb.n.length ≤ 140737488355328) :
 Calls prog 33 #[.agg #[.string ⟨ta.n.toArray⟩, .slice pa ta.c.length ca, .slice ra na xa], .agg #[.string ⟨tb.n.toArray⟩, .slice pb tb.c.length cb, .slice rb nb xb]] w fun e w' => ScdE ta tb w.heap.size w' e ∧ Below w.heap.size w w' := by
 obtain ⟨tA, htA⟩ : ∃ x : ByteArray, (⟨ta.n.toArray⟩ : ByteArray) = x := ⟨_, rfl⟩
 obtain ⟨tB, htB⟩ : ∃ x : ByteArray, (⟨tb.n.toArray⟩ : ByteArray) = x := ⟨_, rfl⟩
 obtain ⟨Na, hNa⟩ : ∃ N, ta.c.length = N := ⟨_, rfl⟩
 obtain ⟨Nb, hNb⟩ : ∃ N, tb.c.length = N := ⟨_, rfl⟩
 obtain ⟨W2, hW2, hb2, hz2, g0, g1⟩ := two_boxes2 w #[.string tA, .slice pa Na ca, .slice ra na xa] #[.string tB, .slice pb Nb cb, .slice rb nb xb] 56 56
 obtain ⟨W4, hW4, hb4, hz4, g2, g3⟩ := two_boxes2 W2 #[.slice none 0 0, .slice none 0 0] #[.slice none 0 0, .slice none 0 0] 74 74
 obtain ⟨ht5, W5, hW5, g5, hz5, hk5⟩ := put_all W4 (W2.heap.size + 1) #[.slice none 0 0, .slice none 0 0] 74 g3 [.slice none 0 0, .slice none 0 0] rfl
 obtain ⟨W6, hW6⟩ : ∃ W, W5.alloc (.cells #[.string tA, .slice pa Na ca, .slice ra na xa, .string tB, .slice pb Nb cb, .slice rb nb xb] 56) = W := ⟨_, rfl⟩
 have hb6 : Below W5.heap.size W5 W6 := by rw [← hW6]; exact below_alloc _ _
 have g6 : W6.heap[W5.heap.size]? = some (.cells #[.string tA, .slice pa Na ca, .slice ra na xa, .string tB, .slice pb Nb cb, .slice rb nb xb] 56 (0, 0)) := by rw [← hW6]; exact heap_alloc_new W5 _
 have hz6 : W6.heap.size = W5.heap.size + 1 := by rw [← hW6]; simp
 obtain ⟨S, hS⟩ : ∃ S, W2.heap.size + 1 = S := ⟨_, rfl⟩
 rw [hS] at g3 ht5 hW5 g5 hk5
 have hSW : w.heap.size ≤ S ∧ S < W5.heap.size := by omega
 have hR0 : Hid (W5.rangeAt w.heap.size 0 (#[.string tA, .slice pa Na ca, .slice ra na xa] : Array Value).toList) := fun j u hu => by
  rw [Nat.zero_add]
  exact cell_of_row ((hk5.block _ (by show _ ≠ S; omega)).trans ((hb4.block _ (by omega)).trans g0)) (by simpa using hu)
 have hR1 : Hid (W5.rangeAt (w.heap.size + 1) 0 (#[.string tB, .slice pb Nb cb, .slice rb nb xb] : Array Value).toList) := fun j u hu => by
  rw [Nat.zero_add]
  exact cell_of_row ((hk5.block _ (by show _ ≠ S; omega)).trans ((hb4.block _ (by omega)).trans g1)) (by simpa using hu)
 have HT5 : Hid (W4.there S 0 2) := ht5
 have HW5 : Hid (W4.setCells S 0 (#[.slice none 0 0, .slice none 0 0] : Array Value).toList = W5) := hW5
 have HON : Hid ((#[.slice none 0 0, .slice none 0 0] : Array Value).all (·.oneCell') = true) := by show _ = _; simp [Value.oneCell']
 have HB06 : Hid (Below w.heap.size w W6) := by
  have h1 : Below w.heap.size w W4 := hb2.trans (hb4.mono hb2.size)
  have h2 : Below w.heap.size w W5 := ⟨hk5.os.trans h1.os, hk5.tape.trans h1.tape, hk5.output.trans h1.output, by have := h1.size; omega, fun b hb => (hk5.block b (by show b ≠ S; omega)).trans (h1.block b hb)⟩
  exact h2.trans (hb6.mono h2.size)
 have HS6 : W6.heap[S]? = some (.cells ([.slice none 0 0, .slice none 0 0] : List Value).toArray 74 (0, 0)) := (hb6.block _ hSW.2).trans g5
 have HSR : Hid (W6.heap[W2.heap.size]? = some (.cells #[.slice none 0 0, .slice none 0 0] 74 (0, 0))) := (hb6.block _ (by omega)).trans ((hk5.block _ (by show _ ≠ S; omega)).trans g2)
 obtain ⟨D, hD⟩ : ∃ D, W5.heap.size = D := ⟨_, rfl⟩
 have HZ : Hid (W6.heap.size = D + 1 ∧ S < D ∧ W2.heap.size < D ∧ W2.heap.size ≠ S ∧ w.heap.size ≤ W2.heap.size ∧ w.heap.size < D) := ⟨by omega, by omega, by omega, by omega, by omega, by omega⟩
 have hkw : ∀ V, Kept (fun b => b < W6.heap.size ∧ b ≠ S) W6 V → Kept K w V := fun V hV => ⟨hV.os.trans HB06.out.os, hV.tape.trans HB06.out.tape, hV.output.trans HB06.out.output, Nat.le_trans HB06.out.size hV.size, fun b hb => (hV.block b ⟨by have := hK b hb; have := HB06.out.size; omega, by have := hK b hb; omega⟩).trans (HB06.out.block b (hK b hb))⟩
 have hgD : ∀ V, Kept (fun b => b < W6.heap.size ∧ b ≠ S) W6 V → V.heap[D]? = some (.cells #[.string tA, .slice pa Na ca, .slice ra na xa, .string tB, .slice pb Nb cb, .slice rb nb xb] 56 (0, 0)) := fun V hV => by rw [← hD]; exact (hV.block _ ⟨by omega, by omega⟩).trans g6
 have HROW : Hid (∀ i (hi : i < [ta, tb].length), ∃ (tS : ByteArray) (M : Nat) (pc : Option Addr) (cc : Nat) (pr : Option Addr) (nr cr : Nat), (⟨([ta, tb][i]).n.toArray⟩ : ByteArray) = tS ∧ ([ta, tb][i]).c.length = M ∧ M ≤ 8 ∧ ([ta, tb][i]).n.length ≤ 140737488355328 ∧ ∀ V, Kept (fun b => b < W6.heap.size ∧ b ≠ S) W6 V → V.rangeAt D (i * 3) [.string tS, .slice pc M cc, .slice pr nr cr] ∧ ListIs rClm 2 24 K V (.slice pc M cc) ([ta, tb][i]).c) := fun i hi => by
  have hi2 : i = 0 ∨ i = 1 := by simp at hi; omega
  rcases hi2 with rfl | rfl
  · exact ⟨tA, Na, pa, ca, ra, na, xa, htA, hNa, by omega, hna, fun V hV => ⟨fun k u hu => by rw [show 0 * 3 + k = k by omega]; refine cell_of_row (hgD V hV) ?_; match k, hu with | 0, hu => exact hu | 1, hu => exact hu | 2, hu => exact hu | (n + 3), hu => simp at hu, by have := ha.mono mClm (fun _ h => h) (hkw V hV); rwa [hNa] at this⟩⟩
  · exact ⟨tB, Nb, pb, cb, rb, nb, xb, htB, hNb, by omega, hnb, fun V hV => ⟨fun k u hu => by rw [show 1 * 3 + k = 3 + k by omega]; refine cell_of_row (hgD V hV) ?_; match k, hu with | 0, hu => exact hu | 1, hu => exact hu | 2, hu => exact hu | (n + 3), hu => simp at hu, by have := hb.mono mClm (fun _ h => h) (hkw V hV); rwa [hNb] at this⟩⟩
 have HSW : Hid (w.heap.size ≤ S) := hSW.1
 obtain ⟨tabs, htabs⟩ : ∃ l, [ta, tb] = l := ⟨_, rfl⟩
 have HTB : Hid ([ta, tb] = tabs ∧ tabs.length = 2) := ⟨htabs, by rw [← htabs]; rfl⟩
 rw [htabs] at HROW
 have HEND : Hid (∀ (p1 p2 : Option Addr) (n c1 c2 : Nat) (V : World), n = (doneC tabs).length → ListIs rStrW 1 16 (From w.heap.size V) V (.slice p1 n c1) (doneN tabs) → ListIs rClm 2 24 (From w.heap.size V) V (.slice p2 n c2) (doneC tabs) → ScdE ta tb w.heap.size V (.returned (.agg #[.slice p1 n c1, .slice p2 n c2]))) := fun p1 p2 n c1 c2 V hn h1 h2 => by
  have e1 : doneN tabs = namesT ta ++ namesT tb := by rw [← htabs]; simp [doneN]
  have e2 : doneC tabs = ta.c ++ tb.c := by rw [← htabs]; simp [doneC]
  rw [e2] at hn h2
  rw [e1] at h1
  subst hn
  exact ⟨p1, c1, p2, c2, rfl, h1, h2⟩
 have HSUM : Hid (∀ i, i ≤ 2 → (doneC (tabs.take i)).length ≤ 16) := fun i hi => by
  rw [← htabs]
  have hi3 : i = 0 ∨ i = 1 ∨ i = 2 := by omega
  rcases hi3 with rfl | rfl | rfl <;> simp [doneC] <;> omega
 rw [hNa, hNb, htA, htB]
 clear ha hb hK h8a h8b hna hnb htA htB hNa hNb g0 g1 g2 g3 ht5 g5 hk5 hb6 g6 hb2 hb4 htabs hkw hgD hz2 hz4 hz5 hz6 hSW hW5
 go_enter func33, ntmps33
 go_wp2_with (first | rw [hW2] | rw [hW4] | (refine wpList_store_mid rfl 74 _ _ rfl S 0 #[.slice none 0 0, .slice none 0 0] rfl rfl HT5.out sz_scr HON.out ?_; rw [HW5.out]) | (refine wpList_load_mid rfl 56 _ rfl w.heap.size 0 rfl _ _ hR0.out underlying56 rfl sz_tab ?_) | (refine wpList_load_mid rfl 56 _ rfl (w.heap.size + 1) 0 rfl _ _ hR1.out underlying56 rfl sz_tab ?_) | rw [hW6])
 go_loopg [15] 2 (fun gf s15 wx => ∃ (i n k1 k2 : Nat) (a1 a2 : Option Addr), s15 = .int .i64 i ∧ i ≤ 2 ∧ 2 ≤ i + gf ∧ Hid (n = (doneC (tabs.take i)).length) ∧ Hid (Kept (fun b => b < W6.heap.size ∧ b ≠ S) W6 wx) ∧ Hid (wx.heap[S]? = some (.cells ([.slice a1 n k1, .slice a2 n k2] : List Value).toArray 74 (0, 0))) ∧ Hid (OwnK (fun _ => False) rStrW 1 9 W6.heap.size wx (.slice a1 n k1) (doneN (tabs.take i))) ∧ Hid (OwnK (fun _ => False) rClm 2 50 W6.heap.size wx (.slice a2 n k2) (doneC (tabs.take i))))
 case atStart => exact ⟨0, 0, 0, 0, none, none, rfl, by omega, by omega, rfl, Kept.refl _ _, HS6, ⟨[], World.ownsRow_nil _ _ _ _, fun j hj => by simp [doneN] at hj⟩, ⟨[], World.ownsRow_nil _ _ _ _, fun j hj => by simp [doneC] at hj⟩⟩
 case round =>
  clear hW2 hW4 hW6 hS hD HS6
  obtain ⟨i, n, k1, k2, a1, a2, rfl, hi1, hgf, HNN, HB, HSS, HO1, HO2⟩ := hrel
  by_cases hi : i < 2
  · obtain ⟨g', rfl⟩ : ∃ g', gk = g' + 1 := ⟨gk - 1, by omega⟩
    obtain ⟨V0, hV0⟩ : ∃ V, V = wr := ⟨_, rfl⟩
    subst hV0
    have hil : i < tabs.length := by rw [HTB.out.2]; exact hi
    obtain ⟨tS, M, pc, cc, pr, nr, cr, htS, hM, hM8, hn47, hrow⟩ := HROW.out i hil
    have hdn := done_next hil
    have hsum := HSUM.out (i + 1) (by omega)
    obtain ⟨t, ht⟩ : ∃ t, tabs[i] = t := ⟨_, rfl⟩
    rw [ht] at htS hM hn47 hrow hdn
    rw [hdn.2, List.length_append, hM] at hsum
    have HT : Hid ((⟨t.n.toArray⟩ : ByteArray) = tS ∧ t.c.length = M ∧ t.n.length ≤ 140737488355328 ∧ n + M ≤ 16) := ⟨htS, hM, hn47, by rw [HNN.out]; exact hsum⟩
    have HDN := hid hdn
    have HRW := hid hrow
    have HR := hid (hrow V0 HB.out).1
    obtain ⟨WA, hWA, hth, V1, hV1, hgQ, hbV⟩ := box_any V0 56 #[.string ⟨#[]⟩, .slice none 0 0, .slice none 0 0] [.string tS, .slice pc M cc, .slice pr nr cr] rfl
    have HTH := hid hth
    have HV1 : Hid (WA.setCells V0.heap.size 0 (#[.string tS, .slice pc M cc, .slice pr nr cr] : Array Value).toList = V1) := hV1
    have HON1 : Hid ((#[.string tS, .slice pc M cc, .slice pr nr cr] : Array Value).all (·.oneCell') = true) := by show _ = _; simp [Value.oneCell']
    have HGT : Hid (V1.heap[V0.heap.size]? = some (.cells #[.string tS, .slice pc M cc, .slice pr nr cr] 56 (0, 0))) := hgQ
    have d1 := cell_of_row (k := 1) (v := .slice pc M cc) hgQ rfl
    have hkv : Kept (fun b => b < V0.heap.size) V0 V1 := ⟨hbV.os, hbV.tape, hbV.output, hbV.size, fun b hb => hbV.block b hb⟩
    have HB1 : Hid (Kept (fun b => b < W6.heap.size ∧ b ≠ S) W6 V1) := HB.out.trans (hkv.less fun b hb => by have := HB.out.size; show b < _; omega)
    have HSS1 : Hid (V1.heap[S]? = some (.cells ([.slice a1 n k1, .slice a2 n k2] : List Value).toArray 74 (0, 0))) := (hbV.block _ (gsi HSS.out).1).trans HSS.out
    have HO11 : Hid (OwnK (fun _ => False) rStrW 1 9 W6.heap.size V1 (.slice a1 n k1) (doneN (tabs.take i))) := own_keep fStrW HO1.out fun g cur hg => hbV.block g (gsi hg).1
    have HO21 : Hid (OwnK (fun _ => False) rClm 2 50 W6.heap.size V1 (.slice a2 n k2) (doneC (tabs.take i))) := own_keep fClm HO2.out fun g cur hg => hbV.block g (gsi hg).1
    obtain ⟨T, hT⟩ : ∃ T, V0.heap.size = T := ⟨_, rfl⟩
    have HTW : Hid (W6.heap.size ≤ T ∧ T < V1.heap.size) := by
     have h1 := HB.out.size
     have h2 := (gsi hgQ).1
     exact ⟨by omega, by omega⟩
    rw [hT] at HTH HV1 HGT d1
    have HLN : Hid (n = (doneC (tabs.take i)).length) := HNN.out
    have z0 : (0 : Int) ≤ (i : Int) := by omega
    have z1 : (i : Int) < 2 := by omega
    clear htS hM hn47 hrow hdn hsum ht hth hV1 hgQ hbV hkv hil HB HSS HO1 HO2 HNN
    go_wp2_with (first | (refine wpList_load_mid rfl 56 _ rfl D (i * 3) rfl _ _ HR.out underlying56 rfl sz_tab ?_) | (refine wpList_store_mid rfl 56 _ _ rfl T 0 #[.string tS, .slice pc M cc, .slice pr nr cr] rfl rfl HTH.out sz_tab HON1.out ?_; rw [show WA.setCells T 0 (#[.string tS, .slice pc M cc, .slice pr nr cr] : Array Value).toList = V1 from HV1.out]))
    clear HTH HV1 HON1 hWA HR d1
    go_loopg [22] M (fun gf s22 wx => ∃ (k m k3 k4 : Nat) (a3 a4 : Option Addr), s22 = .int .i64 k ∧ k ≤ M ∧ M ≤ k + gf ∧ Hid (m = n + k) ∧ Hid (Kept (fun b => b < W6.heap.size ∧ b ≠ S) W6 wx) ∧ Hid (wx.heap[T]? = some (.cells #[.string tS, .slice pc M cc, .slice pr nr cr] 56 (0, 0))) ∧ Hid (wx.heap[S]? = some (.cells ([.slice a3 m k3, .slice a4 m k4] : List Value).toArray 74 (0, 0))) ∧ Hid (OwnK (fun _ => False) rStrW 1 9 W6.heap.size wx (.slice a3 m k3) (doneN (tabs.take i) ++ (namesT t).take k)) ∧ Hid (OwnK (fun _ => False) rClm 2 50 W6.heap.size wx (.slice a4 m k4) (doneC (tabs.take i) ++ t.c.take k)))
    case atStart => exact ⟨0, n, k1, k2, a1, a2, rfl, by omega, by omega, rfl, HB1, HGT, HSS1, by show OwnK _ _ _ _ _ _ _ _; rw [List.take_zero, List.append_nil]; exact HO11.out, by show OwnK _ _ _ _ _ _ _ _; rw [List.take_zero, List.append_nil]; exact HO21.out⟩
    case round =>
     clear HB1 HGT HSS1 HO11 HO21
     obtain ⟨k, m, k3, k4, a3, a4, rfl, hk1, hgf2, HMM, HB, HGT, HSS, HO1, HO2⟩ := hrel
     by_cases hk : k < M
     · obtain ⟨g2, rfl⟩ : ∃ g2, gk = g2 + 1 := ⟨gk - 1, by omega⟩
       have hkl : k < t.c.length := by rw [HT.out.2.1]; exact hk
       obtain ⟨b, o, hq, -, hc⟩ := cell_list (HRW.out wr HB.out).2 (by omega)
       subst hq
       obtain ⟨cs, hrg, hcs, hcb⟩ := hc k hkl
       have hst := names_step hkl
       obtain ⟨c, hcc⟩ : ∃ c, t.c[k] = c := ⟨_, rfl⟩
       rw [hcc] at hcs hcb hst
       obtain ⟨cS, hcS⟩ : ∃ x : ByteArray, (⟨c.n.toArray⟩ : ByteArray) = x := ⟨_, rfl⟩
       rw [hcs, hcS] at hrg
       have HRC := hid hrg
       obtain ⟨WA, hWA, hth, V2, hV2, hgQ, hbV⟩ := box_any wr 50 #[.string ⟨#[]⟩, .int .u8 0] [.string cS, .int .u8 (c.k : Int)] rfl
       have HTH := hid hth
       have HV2 : Hid (WA.setCells wr.heap.size 0 (#[.string cS, .int .u8 (c.k : Int)] : Array Value).toList = V2) := hV2
       have HON1 : Hid ((#[.string cS, .int .u8 (c.k : Int)] : Array Value).all (·.oneCell') = true) := by show _ = _; simp [Value.oneCell']
       have hkv : Kept (fun b => b < wr.heap.size) wr V2 := ⟨hbV.os, hbV.tape, hbV.output, hbV.size, fun b hb => hbV.block b hb⟩
       have hSl := (gsi HSS.out).1
       have hTl := (gsi HGT.out).1
       have hS2 := (hbV.block S hSl).trans HSS.out
       have hT2 := (hbV.block T hTl).trans HGT.out
       have hO1 : OwnK (fun _ => False) rStrW 1 9 W6.heap.size V2 (.slice a3 m k3) (doneN (tabs.take i) ++ (namesT t).take k) := own_keep fStrW HO1.out fun g cur hg => hbV.block g (gsi hg).1
       have hO2 : OwnK (fun _ => False) rClm 2 50 W6.heap.size V2 (.slice a4 m k4) (doneC (tabs.take i) ++ t.c.take k) := own_keep fClm HO2.out fun g cur hg => hbV.block g (gsi hg).1
       have hm : m = n + k := HMM.out
       have hl1 : (doneC (tabs.take i) ++ t.c.take k).length = m := by rw [List.length_append, List.length_take, hm, HLN.out]; omega
       have hl0 : (doneN (tabs.take i) ++ (namesT t).take k).length = m := by rw [← hl1, List.length_append, List.length_append, done_len, List.length_take, List.length_take]; simp [namesT]
       have hV2W : W6.heap.size ≤ V2.heap.size := by have := HB.out.size; have := hbV.size; omega
       obtain ⟨a5, k5, X3, X4, a6, k6, X5, X6, e3, ⟨⟨q1, cq1⟩, q2, q3⟩, hc4, hkA, e5, ⟨⟨r1, cr1⟩, r2, r3⟩, hS6, hO5, hO6, hkB⟩ := scd_row W6.heap.size S V2 a3 a4 m k3 k4 _ _ t.n tS c cS HT.out.1 hcS hS2 hO1 hO2 hl0 hl1 hV2W (by have := HT.out.2.2.2; omega) HT.out.2.2.1 ⟨by rw [hcS], hcb⟩
       have HE3 := hid e3
       have HE5 := hid e5
       have s0 : V2.cell? ⟨S, 0, none⟩ = some (.slice a3 m k3) := cell_of_row hS2 (by simp)
       have u0 : V2.cell? ⟨T, 0, none⟩ = some (.string tS) := cell_of_row hT2 rfl
       have hGl : wr.heap.size < V2.heap.size := (gsi hgQ).1
       have hWr := HB.out.size
       have hSD : S < W6.heap.size := by have := HZ.out; omega
       have hG4 := (hkA.block _ ⟨hGl, by omega, own_type hO1 hgQ (by decide)⟩).trans hgQ
       have HR4 : Hid (X4.rangeAt wr.heap.size 0 (#[.string cS, .int .u8 (c.k : Int)] : Array Value).toList) := rgz hG4
       have HB6 : Hid (Kept (fun b => b < W6.heap.size ∧ b ≠ S) W6 X6) := (HB.out.trans (hkv.less fun b hb => by show b < _; omega)).trans (hkB.less fun b hb => ⟨by omega, hb.2, fun e => by have := (fF hO1 e).1; omega, fun e => by have := (fF hO2 e).1; omega⟩)
       have HGT6 : Hid (X6.heap[T]? = some (.cells #[.string tS, .slice (some ⟨b, o, none⟩) M cc, .slice pr nr cr] 56 (0, 0))) := (hkB.block T ⟨by have := hbV.size; omega, by have := HTW.out; omega, own_type hO1 hT2 (by decide), own_type hO2 hT2 (by decide)⟩).trans hT2
       have HS6 : Hid (X6.heap[S]? = some (.cells ([.slice a5 (m + 1) k5, .slice a6 (m + 1) k6] : List Value).toArray 74 (0, 0))) := hS6
       have HO5 : Hid (OwnK (fun _ => False) rStrW 1 9 W6.heap.size X6 (.slice a5 (m + 1) k5) (doneN (tabs.take i) ++ (namesT t).take (k + 1))) := by
        show OwnK _ _ _ _ _ _ _ _
        rw [hst.1, ← List.append_assoc]
        exact hO5
       have HO6 : Hid (OwnK (fun _ => False) rClm 2 50 W6.heap.size X6 (.slice a6 (m + 1) k6) (doneC (tabs.take i) ++ t.c.take (k + 1))) := by
        show OwnK _ _ _ _ _ _ _ _
        rw [hst.2, ← List.append_assoc]
        exact hO6
       have HMM2 : Hid (m + 1 = n + (k + 1)) := by show _ = _; omega
       have z2 : (0 : Int) ≤ (k : Int) := by omega
       have z3 : (k : Int) < (M : Int) := by omega
       clear hkl hc hrg hcs hcb hst hcc hcS hth hV2 hgQ hbV hkv hSl hTl hS2 hT2 hO1 hO2 hm hl1 hl0 hV2W e3 e5 hkA hkB hS6 hO5 hO6 hGl hWr hSD hG4 HMM HB HGT HSS HO1 HO2
       go_wp2_with (first | (refine wpList_load_mid rfl 50 _ rfl b (o + k * 2) rfl _ _ HRC.out underlying50 rfl sz_clm ?_) | (refine wpList_store_mid rfl 50 _ _ rfl wr.heap.size 0 #[.string cS, .int .u8 (c.k : Int)] rfl rfl HTH.out sz_clm HON1.out ?_; rw [show WA.setCells wr.heap.size 0 (#[.string cS, .int .u8 (c.k : Int)] : Array Value).toList = V2 from HV2.out]) | (at_builtin; refine Lib.wpList_append_run _ rfl _ _ _ _ rfl (.slice a3 m k3) (.slice (some ⟨V2.heap.size, 0, none⟩) 1 1) rfl rfl _ _ HE3.out ?_) | (refine wpList_load_mid rfl 50 _ rfl wr.heap.size 0 rfl _ _ HR4.out underlying50 rfl sz_clm ?_) | (at_builtin; refine Lib.wpList_append_run _ rfl _ _ _ _ rfl (.slice a4 m k4) (.slice (some ⟨X4.heap.size, 0, none⟩) 1 1) rfl rfl _ _ HE5.out ?_))
       go_roundg g2
       case measure => omega
       case rel => exact ⟨k + 1, m + 1, k5, k6, a5, a6, by go_num, by omega, by omega, HMM2, HB6, HGT6, HS6, HO5, HO6⟩
     · have z3 : ¬ (k : Int) < (M : Int) := by omega
       have hkM : k = M := by omega
       subst hkM
       have HBE := hid HB.out
       have HSE := hid HSS.out
       have HNE : Hid (m = (doneC (tabs.take (i + 1))).length) := by
        show _ = _
        rw [HMM.out, HLN.out, HDN.out.2, List.length_append, HT.out.2.1]
       have HO1E : Hid (OwnK (fun _ => False) rStrW 1 9 W6.heap.size wr (.slice a3 m k3) (doneN (tabs.take (i + 1)))) := by
        have := HO1.out
        rw [show (namesT t).take k = namesT t from List.take_of_length_le (by have := HT.out.2.1; unfold namesT; rw [List.length_map]; omega)] at this
        show OwnK _ _ _ _ _ _ _ _
        rw [HDN.out.1]
        exact this
       have HO2E : Hid (OwnK (fun _ => False) rClm 2 50 W6.heap.size wr (.slice a4 m k4) (doneC (tabs.take (i + 1)))) := by
        have := HO2.out
        rw [show t.c.take k = t.c from List.take_of_length_le (by have := HT.out.2.1; omega)] at this
        show OwnK _ _ _ _ _ _ _ _
        rw [HDN.out.2]
        exact this
       clear HMM HB HGT HSS HO1 HO2
       go_wp2_with fail
       go_roundg g'
       case measure => omega
       case rel => exact ⟨i + 1, m, k3, k4, a3, a4, by go_num, by omega, by omega, HNE, HBE, HSE, HO1E, HO2E⟩
  · have z1 : ¬ (i : Int) < 2 := by omega
    obtain rfl : i = 2 := by omega
    have hT2 : tabs.take 2 = tabs := List.take_of_length_le (by rw [HTB.out.2]; exact Nat.le_refl _)
    rw [hT2] at HNN HO1 HO2
    have hSB := HSS.out
    have hz := HZ.out
    have HRS : Hid (wr.rangeAt S 0 (#[.slice a1 n k1, .slice a2 n k2] : Array Value).toList) := rgz hSB
    have hR2 := (HB.out.block W2.heap.size ⟨by omega, hz.2.2.2.1⟩).trans HSR.out
    obtain ⟨hth, X, hX, hld, hsX, hkX⟩ := put_row wr W2.heap.size _ 74 hR2 [.slice a1 n k1, .slice a2 n k2] rfl underlying74 rfl sz_scr
    have HT2 : Hid (wr.there W2.heap.size 0 2) := hth
    have HWX : Hid (wr.setCells W2.heap.size 0 (#[.slice a1 n k1, .slice a2 n k2] : Array Value).toList = X) := hX
    have HLD : Hid ((loadVar 74 ⟨W2.heap.size, 0, none⟩).run prog X = .ok (.agg #[.slice a1 n k1, .slice a2 n k2]) X) := hld
    have HON2 : Hid ((#[.slice a1 n k1, .slice a2 n k2] : Array Value).all (·.oneCell') = true) := by show _ = _; simp [Value.oneCell']
    have hbX : Below w.heap.size w X := ⟨hkX.os.trans (HB.out.os.trans HB06.out.os), hkX.tape.trans (HB.out.tape.trans HB06.out.tape), hkX.output.trans (HB.out.output.trans HB06.out.output), by have := HB06.out.size; have := HB.out.size; omega, fun b hb => (hkX.block b (by show b ≠ _; omega)).trans ((HB.out.block b ⟨by omega, by have := HSW.out; omega⟩).trans (HB06.out.block b hb))⟩
    have hO1X : OwnK (fun _ => False) rStrW 1 9 W6.heap.size X (.slice a1 n k1) (doneN tabs) := own_keep fStrW HO1.out fun g cur hg => hkX.block g (fun e => by subst e; exact blk_ne hg hR2 (by decide) rfl)
    have hO2X : OwnK (fun _ => False) rClm 2 50 W6.heap.size X (.slice a2 n k2) (doneC tabs) := own_keep fClm HO2.out fun g cur hg => hkX.block g (fun e => by subst e; exact blk_ne hg hR2 (by decide) rfl)
    have h16 : (doneC tabs).length ≤ 16 := by have := HSUM.out 2 (by omega); rwa [hT2] at this
    have HQ : Hid (ScdE ta tb w.heap.size X (.returned (.agg #[.slice a1 n k1, .slice a2 n k2]))) := HEND.out a1 a2 n k1 k2 X HNN.out (by
     have := (ownF_list fStrW hO1X (bytes := 16) (by rw [done_len]; omega)).less (C := w.heap.size) mStrW HB06.out.size
     exact this) (by
     have := (ownF_list fClm hO2X (bytes := 24) (by omega)).less (C := w.heap.size) mClm HB06.out.size
     exact this)
    have HBX := hid hbX
    clear HO1 HO2 HNN hSB hz hR2 hth hX hld hsX hkX hbX hO1X hO2X h16 hT2 HB HSS
    go_wp2_with (first | (refine wpList_load_mid rfl 74 _ rfl S 0 rfl _ _ HRS.out underlying74 rfl sz_scr ?_) | (refine wpList_store_mid rfl 74 _ _ rfl W2.heap.size 0 #[.slice a1 n k1, .slice a2 n k2] rfl rfl HT2.out sz_scr HON2.out ?_; rw [HWX.out]))
    refine bodyPost_ret (v := .agg #[.slice a1 n k1, .slice a2 n k2]) (by simp only [results, results33]; simp [asAddr, Act.put, HLD.out]) rfl ?_
    exact ⟨HQ.out, HBX.out⟩
def tabAt (l : List Tab) (n : List UInt8) : Tab := (findP l n).getD ⟨[], []⟩
theorem tabAt_c (l : List Tab) (n : List UInt8) : (tabAt l n).c = colsAt l n := by
 unfold tabAt colsAt
 cases findP l n <;> rfl
theorem found_row {K : Nat → Prop} {l : List Tab} {n : List UInt8} {w : World} {e : Ending} (h : FoundV K l n w e) : ∃ (t : ByteArray) (p : Option Addr) (m c : Nat) (q : Option Addr) (k d : Nat) (b : Bool), e = .returned (.tuple #[.agg #[.string t, .slice p m c, .slice q k d], .bool b]) ∧ (⟨(tabAt l n).n.toArray⟩ : ByteArray) = t ∧ (tabAt l n).c.length = m ∧ ListIs rClm 2 24 K w (.slice p m c) (tabAt l n).c ∧ (tabAt l n).n.length ≤ 140737488355328 := by
 rcases h with ⟨h1, rfl⟩ | ⟨t, pc, cc, pr, nr, cr, h1, rfl, h2, h3⟩
 · have e : tabAt l n = ⟨[], []⟩ := by unfold tabAt; rw [h1]; rfl
   rw [e]
   exact ⟨⟨#[]⟩, none, 0, 0, none, 0, 0, false, rfl, rfl, rfl, ListIs.nil none 0, by simp⟩
 · have e : tabAt l n = t := by unfold tabAt; rw [h1]; rfl
   rw [e]
   exact ⟨_, pc, _, cc, pr, nr, cr, true, rfl, rfl, rfl, h2, h3⟩
theorem field74 (W : World) (p1 p2 : Option Addr) (n1 n2 c1 c2 : Nat) : (Instr.field 74 (.agg #[.slice p1 n1 c1, .slice p2 n2 c2]) 1).run prog W = .ok (.slice p2 n2 c2) W := by kernel_rfl
def ColE (l : List Tab) (t j : List UInt8) (B : Nat) (w' : World) (e : Ending) : Prop := ∃ p c, e = .returned (.slice p (colsB l t j).length c) ∧ ListIs rClm 2 24 (From B w') w' (.slice p (colsB l t j).length c) (colsB l t j)
theorem rcols_any (K : Nat → Prop) (q : Option Addr) (c : Nat) (l : List Tab) (t j : List UInt8) (v2 v3 v4 v5 v6 v7 v8 v9 v10 : Value) (w : World) (h : ListIs rTab 3 64 K w (.slice q l.length c) l) (hK : ∀ b, K b → b < w.heap.size) (hc : catP l = 0) :
 Calls prog 13 #[.agg #[.string ⟨t.toArray⟩, .string ⟨j.toArray⟩, v2, v3, v4, v5, v6, v7, v8, v9, v10], .slice q l.length c] w fun e w' => ColE l t j w.heap.size w' e ∧ Below w.heap.size w w' := by
 obtain ⟨s0, hs0⟩ : ∃ s : ByteArray, (⟨t.toArray⟩ : ByteArray) = s := ⟨_, rfl⟩
 obtain ⟨s1, hs1⟩ : ∃ s : ByteArray, (⟨j.toArray⟩ : ByteArray) = s := ⟨_, rfl⟩
 obtain ⟨N, hN⟩ : ∃ N, l.length = N := ⟨_, rfl⟩
 obtain ⟨W0, hW0⟩ : ∃ W, w.alloc (.cells #[.string s0, .string s1, v2, v3, v4, v5, v6, v7, v8, v9, v10] 32) = W := ⟨_, rfl⟩
 have hb0 : Below w.heap.size w W0 := by rw [← hW0]; exact below_alloc _ _
 have hg0 : W0.heap[w.heap.size]? = some (.cells #[.string s0, .string s1, v2, v3, v4, v5, v6, v7, v8, v9, v10] 32 (0, 0)) := by rw [← hW0]; exact heap_alloc_new w _
 have hz0 : W0.heap.size = w.heap.size + 1 := by rw [← hW0]; simp
 have HBX : Hid (∀ V, Below W0.heap.size W0 V → V.heap[w.heap.size]? = some (.cells #[.string s0, .string s1, v2, v3, v4, v5, v6, v7, v8, v9, v10] 32 (0, 0)) ∧ Below w.heap.size w V) := fun V hV => ⟨(hV.block _ (by omega)).trans hg0, hb0.trans (hV.mono (by omega))⟩
 have CF : Hid (∀ V, Below w.heap.size w V → ∀ (n : List UInt8) (s : ByteArray), (⟨n.toArray⟩ : ByteArray) = s → Calls prog 32 #[.slice q N c, .string s] V fun e w' => FoundV K l n w' e ∧ Below V.heap.size V w') := fun V hV n s hs => by
  have := rfind_any K q c l n V (h.later mTab hK hV) (fun b hb => nlt (hK b hb) hV.size)
  rwa [hN, hs] at this
 have HKK := hid hK
 have HS : Hid ((⟨t.toArray⟩ : ByteArray) = s0 ∧ (⟨j.toArray⟩ : ByteArray) = s1) := ⟨hs0, hs1⟩
 have HC : Hid (catP l = 0) := hc
 have C1 := hid (CF.out W0 hb0 t s0 hs0)
 have d0 : W0.cell? ⟨w.heap.size, 0, none⟩ = some (.string s0) := cell_of_row hg0 rfl
 rw [hs0, hs1, hN]
 clear h hK hc hs0 hs1 hN hb0 hg0 hz0
 go_enter func13, ntmps13
 go_wp2_with (rw [hW0])
 refine C1.out.mono ?_
 rintro e w1 ⟨hf1, hb1⟩
 obtain ⟨t1, p1, n1, c1, q1, m1, d1, b1, rfl, ht1, hn1, hl1, hy1⟩ := found_row hf1
 have HB1 : Hid (Below W0.heap.size W0 w1) := hb1
 have HF1 : Hid ((⟨(tabAt l t).n.toArray⟩ : ByteArray) = t1 ∧ (tabAt l t).c.length = n1 ∧ ListIs rClm 2 24 K w1 (.slice p1 n1 c1) (tabAt l t).c ∧ (tabAt l t).n.length ≤ 140737488355328) := ⟨ht1, hn1, hl1, hy1⟩
 obtain ⟨WA, hWA, hth, V1, hV1, hgA, hbA⟩ := box_any w1 56 #[.string ⟨#[]⟩, .slice none 0 0, .slice none 0 0] [.string t1, .slice p1 n1 c1, .slice q1 m1 d1] rfl
 have HTA := hid hth
 have HVA : Hid (WA.setCells w1.heap.size 0 (#[.string t1, .slice p1 n1 c1, .slice q1 m1 d1] : Array Value).toList = V1) := hV1
 have HOA : Hid ((#[.string t1, .slice p1 n1 c1, .slice q1 m1 d1] : Array Value).all (·.oneCell') = true) := by show _ = _; simp [Value.oneCell']
 have HBA : Hid (Below W0.heap.size W0 V1) := HB1.out.trans (hbA.mono HB1.out.size)
 obtain ⟨hgS, hbw⟩ := HBX.out V1 HBA.out
 have e1 : V1.cell? ⟨w.heap.size, 1, none⟩ = some (.string s1) := cell_of_row hgS rfl
 have C2 := hid (CF.out V1 hbw j s1 HS.out.2)
 have HGA : Hid (V1.heap[w1.heap.size]? = some (.cells #[.string t1, .slice p1 n1 c1, .slice q1 m1 d1] 56 (0, 0)) ∧ w1.heap.size < V1.heap.size) := ⟨hgA, (gsi hgA).1⟩
 have HBV := hid hbA
 have HBW := hid hbw
 clear C1 hf1 hb1 ht1 hn1 hl1 hy1 hth hV1 hgA hbA hgS hbw hW0 d0
 go_wp2_with (refine wpList_store_mid rfl 56 _ _ rfl w1.heap.size 0 #[.string t1, .slice p1 n1 c1, .slice q1 m1 d1] rfl rfl HTA.out sz_tab HOA.out ?_; rw [HVA.out])
 refine C2.out.mono ?_
 rintro e w2 ⟨hf2, hb2⟩
 obtain ⟨t2, p2, n2, c2, q2, m2, d2, b2, rfl, ht2, hn2, hl2, hy2⟩ := found_row hf2
 obtain ⟨WB, hWB, hth, V2, hV2, hgB, hbB⟩ := box_any w2 56 #[.string ⟨#[]⟩, .slice none 0 0, .slice none 0 0] [.string t2, .slice p2 n2 c2, .slice q2 m2 d2] rfl
 have HTB := hid hth
 have HVB : Hid (WB.setCells w2.heap.size 0 (#[.string t2, .slice p2 n2 c2, .slice q2 m2 d2] : Array Value).toList = V2) := hV2
 have HOB : Hid ((#[.string t2, .slice p2 n2 c2, .slice q2 m2 d2] : Array Value).all (·.oneCell') = true) := by show _ = _; simp [Value.oneCell']
 have hb12 : Below V1.heap.size V1 V2 := hb2.trans (hbB.mono hb2.size)
 have hA2 := (hb12.block _ HGA.out.2).trans HGA.out.1
 have HR1 : Hid (V2.rangeAt w1.heap.size 0 (#[.string t1, .slice p1 n1 c1, .slice q1 m1 d1] : Array Value).toList) := rgz hA2
 have HR2 : Hid (V2.rangeAt w2.heap.size 0 (#[.string t2, .slice p2 n2 c2, .slice q2 m2 d2] : Array Value).toList) := rgz hgB
 have hbw2 : Below w.heap.size w V2 := HBW.out.trans (hb12.mono HBW.out.size)
 have HBW2 := hid hbw2
 have C3 : Hid (Calls prog 33 #[.agg #[.string t1, .slice p1 n1 c1, .slice q1 m1 d1], .agg #[.string t2, .slice p2 n2 c2, .slice q2 m2 d2]] V2 fun e w' => ScdE (tabAt l t) (tabAt l j) V2.heap.size w' e ∧ Below V2.heap.size V2 w') := by
  obtain ⟨x1, x2, x3, x4⟩ := HF1.out
  have hkw : Kept K w1 V2 := kept_of (fun b hb => nlt (HKK.out b hb) (by have := HBX.out w1 HB1.out; exact this.2.size)) (HBV.out.trans (hb12.mono HBV.out.size))
  have hkw2 : Kept K w2 V2 := kept_of (fun b hb => nlt (HKK.out b hb) (by have := HBW.out.trans (hb2.mono HBW.out.size); exact this.size)) hbB
  have hs : ∀ n, (tabAt l n).c.length ≤ 8 := fun n => by rw [tabAt_c]; exact cols_small HC.out n
  have := scoped_any K (tabAt l t) (tabAt l j) p1 p2 q1 q2 c1 m1 d1 c2 m2 d2 V2 (by rw [x2]; exact x3.mono mClm (fun _ h => h) hkw) (by rw [hn2]; exact hl2.mono mClm (fun _ h => h) hkw2) (fun b hb => nlt (HKK.out b hb) hbw2.size) (hs t) (hs j) x4 hy2
  rwa [x1, x2, ht2, hn2] at this
 clear C2 hf2 hb2 ht2 hn2 hl2 hy2 hth hV2 hgB hbB hb12 hA2 hbw2 hWA e1
 go_wp2_with (first | (refine wpList_store_mid rfl 56 _ _ rfl w2.heap.size 0 #[.string t2, .slice p2 n2 c2, .slice q2 m2 d2] rfl rfl HTB.out sz_tab HOB.out ?_; rw [HVB.out]) | (refine wpList_load_mid rfl 56 _ rfl w1.heap.size 0 rfl _ _ HR1.out underlying56 rfl sz_tab ?_) | (refine wpList_load_mid rfl 56 _ rfl w2.heap.size 0 rfl _ _ HR2.out underlying56 rfl sz_tab ?_))
 refine C3.out.mono ?_
 rintro e w3 ⟨⟨a1, k1, a2, k2, rfl, _, hl⟩, hb3⟩
 have HQ : Hid (ColE l t j w.heap.size w3 (.returned (.slice a2 ((tabAt l t).c ++ (tabAt l j).c).length k2))) := by
  have e : (tabAt l t).c ++ (tabAt l j).c = colsB l t j := by unfold colsB; rw [tabAt_c, tabAt_c]
  rw [e] at hl ⊢
  exact ⟨a2, k2, rfl, hl.less mClm (by have := HBW2.out.size; omega)⟩
 obtain ⟨L, hL⟩ : ∃ L, ((tabAt l t).c ++ (tabAt l j).c).length = L := ⟨_, rfl⟩
 rw [hL] at HQ ⊢
 have HBE : Hid (Below w.heap.size w w3) := HBW2.out.trans (hb3.mono HBW2.out.size)
 have hfd := fun p1 p2 n1 n2 c1 c2 => field74 w3 p1 p2 n1 n2 c1 c2
 clear C3 hl hb3 hL
 go_wp2_with fail
 go_ret
 exact ⟨HQ.out, HBE.out⟩
end Go.Proofs.YtfifphfihdhlaaaGreatDoor.Bd
