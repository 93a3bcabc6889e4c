/- What the laws of a bound query's items and columns say: pure. -/
import Derived.Test.YtfifphfihdhlaaaGreatDoorCaCb
import Derived.Test.YtfifphfihdhlaaaGreatDoorDe
import Derived.Test.YtfifphfihdhlaaaGreatDoorCuCv
import Derived.Test.YtfifphfihdhlaaaGreatDoorCeCfCg
set_option maxRecDepth 100000
set_option maxHeartbeats 32000000
namespace Go.Proofs.YtfifphfihdhlaaaGreatDoor.Bd
open Go.RowKit Go.Lib
set_option linter.unusedVariables false
set_option linter.unusedSimpArgs false
theorem colR_err {s : Scp} {t : List UInt8} {e : Int} (h : colR s t = .error e) : e ≠ 0 := by
 unfold colR oneP at h
 split at h
 · cases h
 · cases h; decide
theorem exprR_err {s : Scp} : ∀ (l : List Stp) (e : Int), exprR s l = .error e → e ≠ 0
 | [], e, h => by cases h
 | x :: l, e, h => by
  unfold exprR at h
  split at h
  · rename_i y hy
    cases h
    unfold stepR at hy
    split at hy
    · split at hy
      · rename_i z hz; cases hy; exact colR_err hz
      · cases hy
    · cases hy
  · split at h
    · rename_i m hm; cases h; exact exprR_err l _ hm
    · cases h
theorem joinB_err {s : Scp} {q : Qry} {e : Int} (h : joinB s q = .error e) : e ≠ 0 := by
 unfold joinB at h
 split at h
 · cases h
 · split at h
   · rename_i z hz
     cases h
     unfold joinR at hz
     split at hz
     · rename_i y hy; cases hz; exact colR_err hy
     · split at hz
       · rename_i y hy; cases hz; exact colR_err hy
       · split at hz
         · cases hz
         · cases hz; decide
   · cases h
theorem whereR_err {s : Scp} {l : List Stp} {e : Int} (h : whereR s l = .error e) : e ≠ 0 := by
 unfold whereR at h
 split at h
 · cases h
 · split at h
   · rename_i y hy; cases h; exact exprR_err _ _ hy
   · split at h
     · cases h
     · rename_i h0; cases h; exact h0
theorem groupGo_err {s : Scp} : ∀ (l : List (List UInt8)) (acc : List Int) (e : Int), groupGo s acc l = .error e → e ≠ 0
 | [], acc, e, h => by cases h
 | t :: l, acc, e, h => by
  unfold groupGo at h
  split at h
  · rename_i y hy; cases h; exact colR_err hy
  · split at h
    · cases h; decide
    · exact groupGo_err l _ _ h
theorem itemsGo_err {s : Scp} {gr : Bool} {g : List Int} : ∀ (l : List Itm) (e : Int), itemsGo s gr g l = .error e → e ≠ 0
 | [], e, h => by cases h
 | x :: l, e, h => by
  unfold itemsGo at h
  split at h
  · rename_i y hy
    cases h
    unfold itemR at hy
    split at hy
    · cases hy
    · split at hy
      · rename_i z hz; cases hy; exact exprR_err _ _ hz
      · cases hy
  · split at h
    · split at h
      · rename_i m hm; cases h; exact itemsGo_err l _ hm
      · cases h
    · rename_i h0; cases h; exact h0
theorem itemsR_err {s : Scp} {gr : Bool} {g : List Int} {l : List Itm} {e : Int} (h : itemsR s gr g l = .error e) : e ≠ 0 := by
 unfold itemsR at h
 split at h
 · split at h
   · cases h; decide
   · cases h
 · exact itemsGo_err _ _ h
theorem bind_err {q : Qry} {l : List Tab} {e : Int} (h : bindP q l = .error e) : e ≠ 0 := by
 unfold bindP at h
 split at h
 · rename_i h0; cases h; exact h0
 split at h
 · rename_i h0; cases h; exact h0
 unfold resolveP at h
 split at h
 · cases h; decide
 unfold resolveS at h
 split at h
 · rename_i z hz; cases h; exact joinB_err hz
 split at h
 · rename_i z hz; cases h; exact whereR_err hz
 split at h
 · rename_i z hz; cases h; exact groupGo_err _ _ _ hz
 split at h
 · rename_i z hz; cases h; exact itemsR_err hz
 · cases h
open Tryz
open Go.Shelf Go.RowKit Go.Lib Go.Sort
attribute [local go_sem ↓] Go.wp_at_zero Go.wp_at_succ
theorem run_step_eqW (k n : Int) (t : ByteArray) (w : World) :
 (binOp .neq 53 (.agg #[.int .u8 k, .string t, .int .i64 n]) (.agg #[.int .u8 k, .string t, .int .i64 n])).run prog w = .ok (.bool false) w := by
 have h : (binOp .eql 53 (.agg #[.int .u8 k, .string t, .int .i64 n]) (.agg #[.int .u8 k, .string t, .int .i64 n])).run prog w = .ok (.bool true) w := by
  have hS : prog.underlying 53 = some (.struct (prog.fieldsOf 53)) := by kernel_rfl
  have hp : prog.stoodInHeld 53 = false := by kernel_rfl
  have u3 := underlying3; have a3 := Tryz.isAgg3; have z3 := Tryz.sizeOf3
  have u9 := underlying9; have a9 := Tryz.isAgg9; have z9 := Tryz.sizeOf9
  have u1 := underlying51; have a1 := Tryz.isAgg51; have z1 := Tryz.sizeOf51
  have u2 := underlying2; have a2 := Tryz.isAgg2; have z2 := Tryz.sizeOf2
  rw [run_eql_struct, show (10000 : Nat) = 9999 + 1 from rfl, run_equalIn_struct w 9999 53 _ _ hS hp]
  simp only [Program.fieldsOf, underlying53]
  go_simp
 simp only [binOp, Sem.run_bind] at h ⊢
 generalize (Op.equal 53 (.agg #[.int .u8 k, .string t, .int .i64 n]) (.agg #[.int .u8 k, .string t, .int .i64 n])).run prog w = r at h ⊢
 cases r <;> simp_all
theorem texts_eqW (va vb : Value) (xs : List (List UInt8)) (K L : Nat → Prop) (w : World) (h : ListIs rStrW 1 16 K w va xs) (h' : ListIs rStrW 1 16 L w vb xs) (hK : ∀ b, K b → b < w.heap.size) (hL : ∀ b, L b → b < w.heap.size) :
 Calls prog 25 #[va, vb] w fun e w' => e = .returned (.bool true) ∧ Bl w w' := by
 obtain ⟨p, c, rfl, hby, hp⟩ := h
 obtain ⟨q, d, rfl, _, hq⟩ := h'
 have HP : Hid _ := hp
 have HQ : Hid _ := hq
 have t3 : ((xs.length : Int) != (xs.length : Int)) = false := by simp
 have HKK : Hid (∀ b, K b → b < w.heap.size) := hK
 have HLL : Hid (∀ b, L b → b < w.heap.size) := hL
 clear hp hq hK hL
 go_enter func25, ntmps25
 go_wp2_with fail
 go_loopg [13] xs.length (fun gf s30 wx => ∃ i : Nat, s30 = .int .i64 i ∧ i ≤ xs.length ∧ xs.length ≤ i + gf ∧ Hid (Bl w wx))
 case atStart => exact ⟨0, rfl, by omega, by omega, Below.refl _ _⟩
 case round =>
  obtain ⟨i, rfl, hi1, hgf, HB⟩ := hrel
  by_cases hi : i < xs.length
  · obtain ⟨g', rfl⟩ : ∃ g', gk = g' + 1 := ⟨gk - 1, by omega⟩
    obtain ⟨b, o, rfl, hKb, hc⟩ := HP.out (by omega)
    obtain ⟨b', o', rfl, hLb, hc'⟩ := HQ.out (by omega)
    obtain ⟨cs, hcl, hcell, hrel1⟩ := hc i hi
    obtain ⟨ds, hdl, hdell, hrel2⟩ := hc' i hi
    obtain ⟨x, hx⟩ := gen (xs[i])
    rw [hx] at hrel1 hrel2
    have hcs := hrel1.1
    have hds := hrel2.1
    have hcell2 : ∀ j u, cs[j]? = some u → wr.cell? ⟨b, o + i * 1 + j, none⟩ = some u := fun j u hj => by rw [HB.out.cell (p := ⟨b, _, none⟩) (HKK.out _ hKb)]; exact hcell j u hj
    have hdell2 : ∀ j u, ds[j]? = some u → wr.cell? ⟨b', o' + i * 1 + j, none⟩ = some u := fun j u hj => by rw [HB.out.cell (p := ⟨b', _, none⟩) (HLL.out _ hLb)]; exact hdell j u hj
    rw [hcs] at hcell2
    rw [hds] at hdell2
    have c0 := hcell2 0 _ rfl
    have e0 := hdell2 0 _ rfl
    simp only [Nat.add_zero, Nat.mul_one] at c0 e0
    obtain ⟨S, hS⟩ := bya x
    rw [hS] at c0 e0
    clear hS
    have z0 : (0 : Int) ≤ (i : Int) := by omega
    have z1 : (i : Int) < (xs.length : Int) := by omega
    have hbw := HB.out
    clear hc hc' hcell hdell hcell2 hdell2 hrel1 hrel2 hx HB hcl hdl hKb hLb hcs hds
    go_wp2_with fail
    go_quiet (fail)
    go_wp2_with fail
    go_roundg g'
    case measure => omega
    case rel => exact ⟨i + 1, by go_num, by omega, by omega, below_drewN hbw _⟩
  · have z1 : ¬ (i : Int) < (xs.length : Int) := by omega
    have HB2 : Hid (Bl w wr) := HB.out
    clear HB
    go_wp2_with fail
    go_ret
    exact ⟨rfl, HB2.out⟩
theorem steps_eqW (va vb : Value) (xs : List Stp) (K L : Nat → Prop) (w : World) (h : ListIs rStpW 3 32 K w va xs) (h' : ListIs rStpW 3 32 L w vb xs) (hK : ∀ b, K b → b < w.heap.size) (hL : ∀ b, L b → b < w.heap.size) :
 Calls prog 24 #[va, vb] w fun e w' => e = .returned (.bool true) ∧ Bl w w' := by
 obtain ⟨p, c, rfl, hby, hp⟩ := h
 obtain ⟨q, d, rfl, _, hq⟩ := h'
 have HP : Hid _ := hp
 have HQ : Hid _ := hq
 have t3 : ((xs.length : Int) != (xs.length : Int)) = false := by simp
 have HKK : Hid (∀ b, K b → b < w.heap.size) := hK
 have HLL : Hid (∀ b, L b → b < w.heap.size) := hL
 clear hp hq hK hL
 go_enter func24, ntmps24
 go_wp2_with fail
 go_loopg [13] xs.length (fun gf s30 wx => ∃ i : Nat, s30 = .int .i64 i ∧ i ≤ xs.length ∧ xs.length ≤ i + gf ∧ Hid (Bl w wx))
 case atStart => exact ⟨0, rfl, by omega, by omega, Below.refl _ _⟩
 case round =>
  obtain ⟨i, rfl, hi1, hgf, HB⟩ := hrel
  by_cases hi : i < xs.length
  · obtain ⟨g', rfl⟩ : ∃ g', gk = g' + 1 := ⟨gk - 1, by omega⟩
    obtain ⟨b, o, rfl, hKb, hc⟩ := HP.out (by omega)
    obtain ⟨b', o', rfl, hLb, hc'⟩ := HQ.out (by omega)
    obtain ⟨cs, hcl, hcell, hrel1⟩ := hc i hi
    obtain ⟨ds, hdl, hdell, hrel2⟩ := hc' i hi
    obtain ⟨x, hx⟩ := gen (xs[i])
    rw [hx] at hrel1 hrel2
    have hcs := hrel1.1
    have hds := hrel2.1
    have hcell2 : ∀ j u, cs[j]? = some u → wr.cell? ⟨b, o + i * 3 + j, none⟩ = some u := fun j u hj => by rw [HB.out.cell (p := ⟨b, _, none⟩) (HKK.out _ hKb)]; exact hcell j u hj
    have hdell2 : ∀ j u, ds[j]? = some u → wr.cell? ⟨b', o' + i * 3 + j, none⟩ = some u := fun j u hj => by rw [HB.out.cell (p := ⟨b', _, none⟩) (HLL.out _ hLb)]; exact hdell j u hj
    rw [hcs] at hcell2
    rw [hds] at hdell2
    have c0 := hcell2 0 _ rfl
    have e0 := hdell2 0 _ rfl
    have c1 := hcell2 1 _ rfl
    have e1 := hdell2 1 _ rfl
    have c2 := hcell2 2 _ rfl
    have e2 := hdell2 2 _ rfl
    simp only [Nat.add_zero, Nat.mul_one] at c0 e0
    obtain ⟨S, hS⟩ := bya x.t
    rw [hS] at c1 e1
    clear hS
    have z0 : (0 : Int) ≤ (i : Int) := by omega
    have z1 : (i : Int) < (xs.length : Int) := by omega
    have hbw := HB.out
    clear hc hc' hcell hdell hcell2 hdell2 hrel1 hrel2 hx HB hcl hdl hKb hLb hcs hds
    have hne := run_step_eqW (x.k : Int) x.n S
    go_wp2_with fail
    go_quiet (fail)
    go_wp2_with fail
    go_roundg g'
    case measure => omega
    case rel => exact ⟨i + 1, by go_num, by omega, by omega, below_drewN hbw _⟩
  · have z1 : ¬ (i : Int) < (xs.length : Int) := by omega
    have HB2 : Hid (Bl w wr) := HB.out
    clear HB
    go_wp2_with fail
    go_ret
    exact ⟨rfl, HB2.out⟩
theorem cell_list {α : Type} {rel : Rel α} {size bytes : Nat} {K : Nat → Prop} {w : World} {q : Option Addr} {n c : Nat} {l : List α} (h : ListIs rel size bytes K w (.slice q n c) l) (hl : 0 < l.length) : ∃ b o, q = some ⟨b, o, none⟩ ∧ K b ∧ ∀ i (hi : i < l.length), ∃ cs, (∀ j u, cs[j]? = some u → w.cell? ⟨b, o + i * size + j, none⟩ = some u) ∧ rel K w cs l[i] := by
 obtain ⟨q', c', e, _, hp⟩ := h
 obtain ⟨b, o, rfl, hKb, hc⟩ := hp hl
 cases e
 refine ⟨b, o, rfl, hKb, fun i hi => ?_⟩
 obtain ⟨cs, _, hcell, hr⟩ := hc i hi
 exact ⟨cs, hcell, hr⟩
theorem same_eqB (K L : Nat → Prop) (b : Bnd) (pw pg pi pn pk pw2 pg2 pi2 pn2 pk2 : Option Addr) (cw cg ci cn ck cw2 cg2 ci2 cn2 ck2 : Nat) (w : World)
 (hw : ListIs rStpW 3 32 K w (.slice pw b.w.length cw) b.w) (hg : ListIs rInt 1 8 K w (.slice pg b.g.length cg) b.g) (hi : ListIs rItmW 2 32 K w (.slice pi b.i.length ci) b.i) (hn : ListIs rStrW 1 16 K w (.slice pn b.n.length cn) b.n) (hk : ListIs rKnd 1 1 K w (.slice pk b.k.length ck) b.k)
 (hw2 : ListIs rStpW 3 32 L w (.slice pw2 b.w.length cw2) b.w) (hg2 : ListIs rInt 1 8 L w (.slice pg2 b.g.length cg2) b.g) (hi2 : ListIs rItmW 2 32 L w (.slice pi2 b.i.length ci2) b.i) (hn2 : ListIs rStrW 1 16 L w (.slice pn2 b.n.length cn2) b.n) (hk2 : ListIs rKnd 1 1 L w (.slice pk2 b.k.length ck2) b.k)
 (hK : ∀ b, K b → b < w.heap.size) (hL : ∀ b, L b → b < w.heap.size) :
 Calls prog 11 #[.agg (bndC b pw pg pi pn pk cw cg ci cn ck).toArray, .agg (bndC b pw2 pg2 pi2 pn2 pk2 cw2 cg2 ci2 cn2 ck2).toArray] w fun e w' => e = .returned (.bool true) ∧ Bl w w' := by
 obtain ⟨t0, ht0⟩ := bya b.t
 obtain ⟨t1, ht1⟩ := bya b.j
 obtain ⟨bd, hbd⟩ := gen b.d
 obtain ⟨ba, hba⟩ := gen b.a
 obtain ⟨bb, hbb⟩ := gen b.b
 obtain ⟨br, hbr⟩ := gen b.r
 obtain ⟨n1, hn1⟩ := gen b.w.length
 obtain ⟨n2, hn2'⟩ := gen b.g.length
 obtain ⟨n3, hn3⟩ := gen b.i.length
 obtain ⟨n4, hn4⟩ := gen b.n.length
 obtain ⟨n5, hn5⟩ := gen b.k.length
 have hA : (bndC b pw pg pi pn pk cw cg ci cn ck).toArray = #[.string t0, .string t1, .int .i64 bd, .int .i64 ba, .int .i64 bb, .slice pw n1 cw, .slice pg n2 cg, .slice pi n3 ci, .bool br, .slice pn n4 cn, .slice pk n5 ck] := by unfold bndC; rw [ht0, ht1, hbd, hba, hbb, hbr, hn1, hn2', hn3, hn4, hn5]
 have hB : (bndC b pw2 pg2 pi2 pn2 pk2 cw2 cg2 ci2 cn2 ck2).toArray = #[.string t0, .string t1, .int .i64 bd, .int .i64 ba, .int .i64 bb, .slice pw2 n1 cw2, .slice pg2 n2 cg2, .slice pi2 n3 ci2, .bool br, .slice pn2 n4 cn2, .slice pk2 n5 ck2] := by unfold bndC; rw [ht0, ht1, hbd, hba, hbb, hbr, hn1, hn2', hn3, hn4, hn5]
 have HN : Hid (b.g.length = n2 ∧ b.i.length = n3 ∧ b.k.length = n5) := ⟨hn2', hn3, hn5⟩
 obtain ⟨W0, hW0, hb0, hz0, g0, g1⟩ := two_boxes2 w #[.string t0, .string t1, .int .i64 bd, .int .i64 ba, .int .i64 bb, .slice pw n1 cw, .slice pg n2 cg, .slice pi n3 ci, .bool br, .slice pn n4 cn, .slice pk n5 ck] #[.string t0, .string t1, .int .i64 bd, .int .i64 ba, .int .i64 bb, .slice pw2 n1 cw2, .slice pg2 n2 cg2, .slice pi2 n3 ci2, .bool br, .slice pn2 n4 cn2, .slice pk2 n5 ck2] 32 32
 have HG : Hid (∀ V, Bl W0 V → V.heap[w.heap.size]? = some (.cells #[.string t0, .string t1, .int .i64 bd, .int .i64 ba, .int .i64 bb, .slice pw n1 cw, .slice pg n2 cg, .slice pi n3 ci, .bool br, .slice pn n4 cn, .slice pk n5 ck] 32 (0, 0)) ∧ V.heap[w.heap.size + 1]? = some (.cells #[.string t0, .string t1, .int .i64 bd, .int .i64 ba, .int .i64 bb, .slice pw2 n1 cw2, .slice pg2 n2 cg2, .slice pi2 n3 ci2, .bool br, .slice pn2 n4 cn2, .slice pk2 n5 ck2] 32 (0, 0)) ∧ Bl w V) := fun V hb => ⟨(hb.block _ (by omega)).trans g0, (hb.block _ (by omega)).trans g1, hb0.trans (hb.mono hb0.size)⟩
 have hKV : ∀ V, Bl w V → ∀ b, K b → b < V.heap.size := fun V hV b hb => nlt (hK b hb) hV.size
 have hLV : ∀ V, Bl w V → ∀ b, L b → b < V.heap.size := fun V hV b hb => nlt (hL b hb) hV.size
 have CS : Hid (Calls prog 24 #[.slice pw n1 cw, .slice pw2 n1 cw2] W0 fun e w' => e = .returned (.bool true) ∧ Bl W0 w') := by have := steps_eqW _ _ b.w K L W0 (hw.later mStpW hK hb0) (hw2.later mStpW hL hb0) (hKV _ hb0) (hLV _ hb0); rw [hn1] at this; exact this
 have CT : Hid (∀ V, Bl W0 V → Calls prog 25 #[.slice pn n4 cn, .slice pn2 n4 cn2] V fun e w' => e = .returned (.bool true) ∧ Bl V w') := fun V hb => by have hbw := hb0.trans (hb.mono hb0.size); have := texts_eqW _ _ b.n K L V (hn.later mStrW hK hbw) (hn2.later mStrW hL hbw) (hKV _ hbw) (hLV _ hbw); rw [hn4] at this; exact this
 have hbig : n2 ≤ 140737488355328 ∧ n3 ≤ 140737488355328 ∧ n5 ≤ 140737488355328 := by
  obtain ⟨_, _, _, ⟨h1, _⟩, _⟩ := hg
  obtain ⟨_, _, _, ⟨h2, _⟩, _⟩ := hi
  obtain ⟨_, _, _, ⟨h3, _⟩, _⟩ := hk
  omega
 have HLG : Hid (∀ V, Bl w V → ListIs rInt 1 8 K V (.slice pg n2 cg) b.g ∧ ListIs rInt 1 8 L V (.slice pg2 n2 cg2) b.g) := fun V hV => by
  have h1 := hg.later mInt hK hV
  have h2 := hg2.later mInt hL hV
  rw [hn2'] at h1 h2
  exact ⟨h1, h2⟩
 have HLK : Hid (∀ V, Bl w V → ListIs rKnd 1 1 K V (.slice pk n5 ck) b.k ∧ ListIs rKnd 1 1 L V (.slice pk2 n5 ck2) b.k) := fun V hV => by
  have h1 := hk.later mKnd hK hV
  have h2 := hk2.later mKnd hL hV
  rw [hn5] at h1 h2
  exact ⟨h1, h2⟩
 have HLI : Hid (∀ V, Bl w V → ListIs rItmW 2 32 K V (.slice pi n3 ci) b.i ∧ ListIs rItmW 2 32 L V (.slice pi2 n3 ci2) b.i) := fun V hV => by
  have h1 := hi.later mItmW hK hV
  have h2 := hi2.later mItmW hL hV
  rw [hn3] at h1 h2
  exact ⟨h1, h2⟩
 have HKV := hid hKV
 have HLV := hid hLV
 have HBG := hid hbig
 have a0 := cell_of_row (k := 0) (v := .string t0) g0 rfl
 have b0 := cell_of_row (k := 0) (v := .string t0) g1 rfl
 have a1 := cell_of_row (k := 1) (v := .string t1) g0 rfl
 have b1 := cell_of_row (k := 1) (v := .string t1) g1 rfl
 have a2 := cell_of_row (k := 2) (v := .int .i64 bd) g0 rfl
 have b2 := cell_of_row (k := 2) (v := .int .i64 bd) g1 rfl
 have a3 := cell_of_row (k := 3) (v := .int .i64 ba) g0 rfl
 have b3 := cell_of_row (k := 3) (v := .int .i64 ba) g1 rfl
 have a4 := cell_of_row (k := 4) (v := .int .i64 bb) g0 rfl
 have b4 := cell_of_row (k := 4) (v := .int .i64 bb) g1 rfl
 have a5 := cell_of_row (k := 5) (v := .slice pw n1 cw) g0 rfl
 have b5 := cell_of_row (k := 5) (v := .slice pw2 n1 cw2) g1 rfl
 have a8 := cell_of_row (k := 8) (v := .bool br) g0 rfl
 have b8 := cell_of_row (k := 8) (v := .bool br) g1 rfl
 rw [hA, hB]
 clear hw hg hi hn hk hw2 hg2 hi2 hn2 hk2 hK hL hKV hLV ht0 ht1 hbd hba hbb hbr hn1 hn2' hn3 hn4 hn5 hA hB hb0 g0 g1 hz0 hbig
 go_enter func11, ntmps11
 go_wp2_with fail
 refine CS.out.mono ?_
 rintro e w1 ⟨rfl, hb1⟩
 obtain ⟨k0, k1, _⟩ := HG.out w1 hb1
 have a9 := cell_of_row (k := 9) (v := .slice pn n4 cn) k0 rfl
 have b9 := cell_of_row (k := 9) (v := .slice pn2 n4 cn2) k1 rfl
 have C2 := hid (CT.out w1 hb1)
 have HB1 := hid hb1
 clear CS CT hb1 k0 k1 a0 a1 a2 a3 a4 a5 a8 b0 b1 b2 b3 b4 b5 b8 hW0
 go_wp2_with fail
 refine C2.out.mono ?_
 rintro e w2 ⟨rfl, hb2⟩
 have hbw2 : Bl W0 w2 := HB1.out.trans (hb2.mono HB1.out.size)
 obtain ⟨k0, k1, _⟩ := HG.out w2 hbw2
 have a6 := cell_of_row (k := 6) (v := .slice pg n2 cg) k0 rfl
 have b6 := cell_of_row (k := 6) (v := .slice pg2 n2 cg2) k1 rfl
 have a7 := cell_of_row (k := 7) (v := .slice pi n3 ci) k0 rfl
 have b7 := cell_of_row (k := 7) (v := .slice pi2 n3 ci2) k1 rfl
 have a10 := cell_of_row (k := 10) (v := .slice pk n5 ck) k0 rfl
 have b10 := cell_of_row (k := 10) (v := .slice pk2 n5 ck2) k1 rfl
 have HB2 := hid hbw2
 clear C2 hb2 hbw2 k0 k1 a9 b9 HB1
 go_wp2_with fail
 go_loopg [5, 92] n2 (fun gf s5 s92 wx => ∃ i : Nat, s92 = .int .i64 i ∧ i ≤ n2 ∧ n2 ≤ i + gf ∧ Hid (Bl W0 wx))
 case atStart => exact ⟨0, rfl, by omega, by have := HBG; omega, HB2⟩
 case round =>
  clear HB2
  obtain ⟨i, rfl, hi1, hgf, HB⟩ := hrel
  obtain ⟨k0, k1, hbw⟩ := HG.out wr HB.out
  by_cases hi : i < n2
  · obtain ⟨g', rfl⟩ : ∃ g', gk = g' + 1 := ⟨gk - 1, by omega⟩
    have hil : i < b.g.length := by rw [HN.out.1]; exact hi
    obtain ⟨h1, h2⟩ := HLG.out wr hbw
    obtain ⟨bx, ox, hp1, -, hc⟩ := cell_list h1 (by omega)
    obtain ⟨by2, oy, hp2, -, hc'⟩ := cell_list h2 (by omega)
    subst hp1
    subst hp2
    obtain ⟨cs1, hr1, hq1⟩ := hc i hil
    obtain ⟨cs2, hr2, hq2⟩ := hc' i hil
    obtain ⟨y, hy⟩ := gen (b.g[i])
    rw [hy] at hq1 hq2
    rw [hq1] at hr1
    rw [hq2] at hr2
    have hbn : n2 ≤ 140737488355328 := by have := HBG.out; omega
    have c0 := hr1 0 _ rfl
    have e0 := hr2 0 _ rfl
    simp only [Nat.add_zero, Nat.mul_one] at c0 e0
    have x6 := cell_of_row (k := 6) (v := .slice (some ⟨bx, ox, none⟩) n2 cg) k0 rfl
    have y6 := cell_of_row (k := 6) (v := .slice (some ⟨by2, oy, none⟩) n2 cg2) k1 rfl
    have z0 : (0 : Int) ≤ (i : Int) := by omega
    have z1 : (i : Int) < (n2 : Int) := by omega
    have hbb := HB.out
    clear HB k0 k1 hbw h1 h2 hc hc' hr1 hr2 hq1 hq2 hy hil
    go_wp2_with fail
    go_quiet (fail)
    go_wp2_with fail
    go_roundg g'
    case measure => omega
    case rel => exact ⟨i + 1, by go_num, by omega, by omega, below_drewN hbb _⟩
  · have z1 : ¬ (i : Int) < (n2 : Int) := by omega
    obtain ⟨w3, hw3⟩ : ∃ V, V = wr := ⟨_, rfl⟩
    subst hw3
    have HB3 : Hid (Bl W0 w3) := HB.out
    have q10 := cell_of_row (k := 10) (v := .slice pk n5 ck) k0 rfl
    have p10 := cell_of_row (k := 10) (v := .slice pk2 n5 ck2) k1 rfl
    clear HB k0 k1 hbw a6 b6 a7 b7 a10 b10
    go_wp2_with fail
    go_loopg [6, 110] n5 (fun gf s5 s92 wx => ∃ i : Nat, s92 = .int .i64 i ∧ i ≤ n5 ∧ n5 ≤ i + gf ∧ Hid (Bl W0 wx))
    case atStart => exact ⟨0, rfl, by omega, by have := HBG; omega, HB3⟩
    case round =>
     clear HB3
     obtain ⟨i, rfl, hi1, hgf, HB⟩ := hrel
     obtain ⟨k0, k1, hbw⟩ := HG.out wr HB.out
     by_cases hi : i < n5
     · obtain ⟨g', rfl⟩ : ∃ g', gk = g' + 1 := ⟨gk - 1, by omega⟩
       have hil : i < b.k.length := by rw [HN.out.2.2]; exact hi
       obtain ⟨h1, h2⟩ := HLK.out wr hbw
       obtain ⟨bx, ox, hp1, -, hc⟩ := cell_list h1 (by omega)
       obtain ⟨by2, oy, hp2, -, hc'⟩ := cell_list h2 (by omega)
       subst hp1
       subst hp2
       obtain ⟨cs1, hr1, hq1⟩ := hc i hil
       obtain ⟨cs2, hr2, hq2⟩ := hc' i hil
       obtain ⟨y, hy⟩ := gen (b.k[i])
       rw [hy] at hq1 hq2
       rw [hq1.1] at hr1
       rw [hq2.1] at hr2
       have hbn : n5 ≤ 140737488355328 := by have := HBG.out; omega
       have c0 := hr1 0 _ rfl
       have e0 := hr2 0 _ rfl
       simp only [Nat.add_zero, Nat.mul_one] at c0 e0
       have x10 := cell_of_row (k := 10) (v := .slice (some ⟨bx, ox, none⟩) n5 ck) k0 rfl
       have y10 := cell_of_row (k := 10) (v := .slice (some ⟨by2, oy, none⟩) n5 ck2) k1 rfl
       have z0 : (0 : Int) ≤ (i : Int) := by omega
       have z1 : (i : Int) < (n5 : Int) := by omega
       have hbb := HB.out
       clear HB k0 k1 hbw h1 h2 hc hc' hr1 hr2 hq1 hq2 hy hil
       go_wp2_with fail
       go_quiet (fail)
       go_wp2_with fail
       go_roundg g'
       case measure => omega
       case rel => exact ⟨i + 1, by go_num, by omega, by omega, below_drewN hbb _⟩
     · have z1 : ¬ (i : Int) < (n5 : Int) := by omega
       obtain ⟨w4, hw3⟩ : ∃ V, V = wr := ⟨_, rfl⟩
       subst hw3
       have HB4 : Hid (Bl W0 w4) := HB.out
       have q10 := cell_of_row (k := 7) (v := .slice pi n3 ci) k0 rfl
       have p10 := cell_of_row (k := 7) (v := .slice pi2 n3 ci2) k1 rfl
       clear HB k0 k1 hbw 
       go_wp2_with fail
       go_loopg [7, 128] n3 (fun gf s7 s128 wx => ∃ i : Nat, s128 = .int .i64 i ∧ i ≤ n3 ∧ n3 ≤ i + gf ∧ Hid (Bl W0 wx))
       case atStart => exact ⟨0, rfl, by omega, by omega, HB4⟩
       case round =>
        clear HB4 q10 p10
        obtain ⟨i, rfl, hi1, hgf, HB⟩ := hrel
        obtain ⟨k0, k1, hbw⟩ := HG.out wr HB.out
        by_cases hi : i < n3
        · obtain ⟨g', rfl⟩ : ∃ g', gk = g' + 1 := ⟨gk - 1, by omega⟩
          have hil : i < b.i.length := by rw [HN.out.2.1]; exact hi
          have hkr := HKV.out wr hbw
          have hlr := HLV.out wr hbw
          obtain ⟨h1, h2⟩ := HLI.out wr hbw
          obtain ⟨bx, ox, hp1, hKb, hc⟩ := itm_w h1 (by omega)
          obtain ⟨by2, oy, hp2, hLb, hc'⟩ := itm_w h2 (by omega)
          subst hp1
          subst hp2
          obtain ⟨u1, f1, hr1, hl1, -⟩ := hc i hil
          obtain ⟨u2, f2, hr2, hl2, -⟩ := hc' i hil
          obtain ⟨y, hy⟩ := gen (b.i[i])
          rw [hy] at hr1 hl1 hr2 hl2
          have n5' : ((y.g : Int) != (y.g : Int)) = false := by simp
          have cS : Hid (∀ p : LaterS wr.heap.size wr, Calls prog 24 #[.slice u1 y.e.length f1, .slice u2 y.e.length f2] p.w fun e w' => e = .returned (.bool true) ∧ Bl p.w w') := fun p =>
           steps_eqW _ _ y.e K L p.w (hl1.later mStpW hkr p.h) (hl2.later mStpW hlr p.h) (fun b hb => nlt (hkr b hb) p.h.size) (fun b hb => nlt (hlr b hb) p.h.size)
          have c0 : ∀ p : LaterS wr.heap.size wr, p.w.cell? ⟨bx, ox + i * 2, none⟩ = some (.int .u8 (y.g : Int)) := fun p => (p.h.cell (p := ⟨bx, _, none⟩) (hkr _ hKb)).trans (hr1 0 _ rfl)
          have c1 : ∀ p : LaterS wr.heap.size wr, p.w.cell? ⟨bx, ox + i * 2 + 1, none⟩ = some (.slice u1 y.e.length f1) := fun p => (p.h.cell (p := ⟨bx, _, none⟩) (hkr _ hKb)).trans (hr1 1 _ rfl)
          have e0 : ∀ p : LaterS wr.heap.size wr, p.w.cell? ⟨by2, oy + i * 2, none⟩ = some (.int .u8 (y.g : Int)) := fun p => (p.h.cell (p := ⟨by2, _, none⟩) (hlr _ hLb)).trans (hr2 0 _ rfl)
          have e1 : ∀ p : LaterS wr.heap.size wr, p.w.cell? ⟨by2, oy + i * 2 + 1, none⟩ = some (.slice u2 y.e.length f2) := fun p => (p.h.cell (p := ⟨by2, _, none⟩) (hlr _ hLb)).trans (hr2 1 _ rfl)
          have m0 : ∀ p : LaterS wr.heap.size wr, p.w.cell? ⟨w.heap.size, 7, none⟩ = some (.slice (some ⟨bx, ox, none⟩) n3 ci) := fun p => cell_of_row (k := 7) (HG.out p.w (HB.out.trans (p.h.mono HB.out.size))).1 rfl
          have m1 : ∀ p : LaterS wr.heap.size wr, p.w.cell? ⟨w.heap.size + 1, 7, none⟩ = some (.slice (some ⟨by2, oy, none⟩) n3 ci2) := fun p => cell_of_row (k := 7) (HG.out p.w (HB.out.trans (p.h.mono HB.out.size))).2.1 rfl
          have z0 : (0 : Int) ≤ (i : Int) := by omega
          have z1 : (i : Int) < (n3 : Int) := by omega
          have hbn : n3 ≤ 140737488355328 := by have := HBG.out; omega
          have HB5 : Hid (Bl W0 wr) := HB.out
          clear hc hc' hr1 hr2 hl1 hl2 hy HB hKb hLb hkr hlr hbw k0 k1 hil h1 h2
          go_wp2_with fail
          have inhL := laterInh
          refine wp_region_laterS mixedOnS (by kernel_rfl) ?_
          repeat (go_big_quiet_step ((go_at_call 24; exact calls_laterS (cS.out _))))
          refine wpQuiet_nil ?_
          intro w5 hw'
          obtain ⟨⟨wq, hwq⟩, hw''⟩ := hw'
          subst hw''
          go_wp2_with fail
          go_roundg g'
          case measure => omega
          case rel => exact ⟨i + 1, by go_num, by omega, by omega, HB5.out.trans (hwq.mono HB5.out.size)⟩
        · have z1 : ¬ (i : Int) < (n3 : Int) := by omega
          have HBW := hid hbw
          clear HB k0 k1 hbw
          go_wp2_with fail
          go_ret
          exact ⟨rfl, HBW.out⟩
theorem fF {α : Type} {rel : Rel α} {size : Nat} {te : TypeId} {base : Nat} {X : World} {u : Value} {xs : List α} (h : OwnK (fun _ => False) rel size te base X u xs) {b : Nat} (e : u.ownBlock = some b) : base ≤ b ∧ b < X.heap.size := by
 obtain ⟨cells, ho, _⟩ := h
 exact ho.lt b e
end Go.Proofs.YtfifphfihdhlaaaGreatDoor.Bd
