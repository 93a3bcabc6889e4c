/- Queries that are one: what the reference's Same answers. -/
import Derived.Test.YthpcpaggbhgcoaaGreatDoorRh
namespace Go.Proofs.YthpcpaggbhgcoaaGreatDoor
open Go.Shelf Go.RowKit Go.Lib Go.Sort
set_option linter.unusedVariables false
set_option linter.unusedSimpArgs false
attribute [local go_sem ↓] Go.wp_at_zero Go.wp_at_succ
theorem run_step_eq (k n : Int) (t : ByteArray) (w : World) :
    (binOp .neq 40 (.agg #[.int .u8 k, .string t, .int .i64 n]) (.agg #[.int .u8 k, .string t, .int .i64 n])).run Tryz.prog w = .ok (.bool false) w := by
  have h : (binOp .eql 40 (.agg #[.int .u8 k, .string t, .int .i64 n]) (.agg #[.int .u8 k, .string t, .int .i64 n])).run Tryz.prog w = .ok (.bool true) w := by
    have hS : Tryz.prog.underlying 40 = some (.struct (Tryz.prog.fieldsOf 40)) := by kernel_rfl
    have hp : Tryz.prog.stoodInHeld 40 = false := by kernel_rfl
    have u3 := Tryz.underlying3; have a3 := Tryz.isAgg3; have z3 := Tryz.sizeOf3
    have u9 := Tryz.underlying9; have a9 := Tryz.isAgg9; have z9 := Tryz.sizeOf9
    have u1 := Tryz.underlying38; have a1 := Tryz.isAgg38; have z1 := Tryz.sizeOf38
    have u2 := Tryz.underlying2; have a2 := Tryz.isAgg2; have z2 := Tryz.sizeOf2
    rw [run_eql_struct, show (10000 : Nat) = 9999 + 1 from rfl, run_equalIn_struct w 9999 40 _ _ hS hp]
    simp only [Program.fieldsOf, Tryz.underlying40]
    go_simp
  simp only [binOp, Sem.run_bind] at h ⊢
  generalize (Op.equal 40 (.agg #[.int .u8 k, .string t, .int .i64 n]) (.agg #[.int .u8 k, .string t, .int .i64 n])).run Tryz.prog w = r at h ⊢
  cases r <;> simp_all
set_option maxRecDepth 100000 in
set_option maxHeartbeats 2000000 in
theorem texts_eq (va vb : Value) (xs : List (List UInt8)) (K L : Nat → Prop) (w : World) (h : ListIs rStr 1 16 K w va xs) (h' : ListIs rStr 1 16 L w vb xs) (hK : ∀ b, K b → b < w.heap.size) (hL : ∀ b, L b → b < w.heap.size) :
    Calls Tryz.prog 16 #[va, vb] w fun e w' => e = .returned (.bool true) ∧ Below w.heap.size w w' := by
  obtain ⟨p, c, rfl, hby, hp⟩ := h
  obtain ⟨q, d, rfl, _, hq⟩ := h'
  have HP : Hid _ := hp
  have HQ : Hid _ := hq
  have t3 : ((xs.length : Int) != (xs.length : Int)) = false := by simp
  have HKK : Hid (∀ b, K b → b < w.heap.size) := hK
  have HLL : Hid (∀ b, L b → b < w.heap.size) := hL
  clear hp hq hK hL
  go_enter Tryz.func16, Tryz.ntmps16
  go_wp2_with fail
  go_loopg [13] xs.length (fun gf s30 wx => ∃ i : Nat, s30 = .int .i64 i ∧ i ≤ xs.length ∧ xs.length ≤ i + gf ∧ Hid (Below w.heap.size w wx))
  case atStart => exact ⟨0, rfl, by omega, by omega, Below.refl _ _⟩
  case round =>
    obtain ⟨i, rfl, hi1, hgf, HB⟩ := hrel
    by_cases hi : i < xs.length
    · obtain ⟨g', rfl⟩ : ∃ g', gk = g' + 1 := ⟨gk - 1, by omega⟩
      obtain ⟨b, o, rfl, hKb, hc⟩ := HP.out (by omega)
      obtain ⟨b', o', rfl, hLb, hc'⟩ := HQ.out (by omega)
      obtain ⟨cs, hcl, hcell, hrel1⟩ := hc i hi
      obtain ⟨ds, hdl, hdell, hrel2⟩ := hc' i hi
      obtain ⟨x, hx⟩ : ∃ x, xs[i] = x := ⟨_, rfl⟩
      rw [hx] at hrel1 hrel2
      have hcs := hrel1.1
      have hds := hrel2.1
      have hcell2 : ∀ j u, cs[j]? = some u → wr.cell? ⟨b, o + i * 1 + j, none⟩ = some u := fun j u hj => by rw [HB.out.cell (p := ⟨b, _, none⟩) (HKK.out _ hKb)]; exact hcell j u hj
      have hdell2 : ∀ j u, ds[j]? = some u → wr.cell? ⟨b', o' + i * 1 + j, none⟩ = some u := fun j u hj => by rw [HB.out.cell (p := ⟨b', _, none⟩) (HLL.out _ hLb)]; exact hdell j u hj
      rw [hcs] at hcell2
      rw [hds] at hdell2
      have c0 := hcell2 0 _ rfl
      have e0 := hdell2 0 _ rfl
      simp only [Nat.add_zero, Nat.mul_one] at c0 e0
      obtain ⟨S, hS⟩ : ∃ S : ByteArray, (⟨x.toArray⟩ : ByteArray) = S := ⟨_, rfl⟩
      rw [hS] at c0 e0
      clear hS
      have z0 : (0 : Int) ≤ (i : Int) := by omega
      have z1 : (i : Int) < (xs.length : Int) := by omega
      have hbw := HB.out
      clear hc hc' hcell hdell hcell2 hdell2 hrel1 hrel2 hx HB hcl hdl hKb hLb hcs hds
      go_wp2_with fail
      go_quiet (fail)
      go_wp2_with fail
      go_roundg g'
      case measure => omega
      case rel => exact ⟨i + 1, by go_num, by omega, by omega, below_drewN hbw _⟩
    · have z1 : ¬ (i : Int) < (xs.length : Int) := by omega
      have HB2 : Hid (Below w.heap.size w wr) := HB.out
      clear HB
      go_wp2_with fail
      go_ret
      exact ⟨rfl, HB2.out⟩
set_option maxRecDepth 100000 in
set_option maxHeartbeats 2000000 in
theorem steps_eq (va vb : Value) (xs : List Stp) (K L : Nat → Prop) (w : World) (h : ListIs rStp 3 32 K w va xs) (h' : ListIs rStp 3 32 L w vb xs) (hK : ∀ b, K b → b < w.heap.size) (hL : ∀ b, L b → b < w.heap.size) :
    Calls Tryz.prog 15 #[va, vb] w fun e w' => e = .returned (.bool true) ∧ Below w.heap.size w w' := by
  obtain ⟨p, c, rfl, hby, hp⟩ := h
  obtain ⟨q, d, rfl, _, hq⟩ := h'
  have HP : Hid _ := hp
  have HQ : Hid _ := hq
  have t3 : ((xs.length : Int) != (xs.length : Int)) = false := by simp
  have HKK : Hid (∀ b, K b → b < w.heap.size) := hK
  have HLL : Hid (∀ b, L b → b < w.heap.size) := hL
  clear hp hq hK hL
  go_enter Tryz.func15, Tryz.ntmps15
  go_wp2_with fail
  go_loopg [13] xs.length (fun gf s30 wx => ∃ i : Nat, s30 = .int .i64 i ∧ i ≤ xs.length ∧ xs.length ≤ i + gf ∧ Hid (Below w.heap.size w wx))
  case atStart => exact ⟨0, rfl, by omega, by omega, Below.refl _ _⟩
  case round =>
    obtain ⟨i, rfl, hi1, hgf, HB⟩ := hrel
    by_cases hi : i < xs.length
    · obtain ⟨g', rfl⟩ : ∃ g', gk = g' + 1 := ⟨gk - 1, by omega⟩
      obtain ⟨b, o, rfl, hKb, hc⟩ := HP.out (by omega)
      obtain ⟨b', o', rfl, hLb, hc'⟩ := HQ.out (by omega)
      obtain ⟨cs, hcl, hcell, hrel1⟩ := hc i hi
      obtain ⟨ds, hdl, hdell, hrel2⟩ := hc' i hi
      obtain ⟨x, hx⟩ : ∃ x, xs[i] = x := ⟨_, rfl⟩
      rw [hx] at hrel1 hrel2
      have hcs := hrel1.1
      have hds := hrel2.1
      have hcell2 : ∀ j u, cs[j]? = some u → wr.cell? ⟨b, o + i * 3 + j, none⟩ = some u := fun j u hj => by rw [HB.out.cell (p := ⟨b, _, none⟩) (HKK.out _ hKb)]; exact hcell j u hj
      have hdell2 : ∀ j u, ds[j]? = some u → wr.cell? ⟨b', o' + i * 3 + j, none⟩ = some u := fun j u hj => by rw [HB.out.cell (p := ⟨b', _, none⟩) (HLL.out _ hLb)]; exact hdell j u hj
      rw [hcs] at hcell2
      rw [hds] at hdell2
      have c0 := hcell2 0 _ rfl
      have e0 := hdell2 0 _ rfl
      have c1 := hcell2 1 _ rfl
      have e1 := hdell2 1 _ rfl
      have c2 := hcell2 2 _ rfl
      have e2 := hdell2 2 _ rfl
      simp only [Nat.add_zero, Nat.mul_one] at c0 e0
      obtain ⟨S, hS⟩ : ∃ S : ByteArray, (⟨x.t.toArray⟩ : ByteArray) = S := ⟨_, rfl⟩
      rw [hS] at c1 e1
      clear hS
      have z0 : (0 : Int) ≤ (i : Int) := by omega
      have z1 : (i : Int) < (xs.length : Int) := by omega
      have hbw := HB.out
      clear hc hc' hcell hdell hcell2 hdell2 hrel1 hrel2 hx HB hcl hdl hKb hLb hcs hds
      have hne := run_step_eq (x.k : Int) x.n S
      go_wp2_with fail
      go_quiet (fail)
      go_wp2_with fail
      go_roundg g'
      case measure => omega
      case rel => exact ⟨i + 1, by go_num, by omega, by omega, below_drewN hbw _⟩
    · have z1 : ¬ (i : Int) < (xs.length : Int) := by omega
      have HB2 : Hid (Below w.heap.size w wr) := HB.out
      clear HB
      go_wp2_with fail
      go_ret
      exact ⟨rfl, HB2.out⟩
set_option maxRecDepth 100000 in
set_option maxHeartbeats 8000000 in
theorem same_eq (K L : Nat → Prop) (pi pw pg pj px py : Option Addr) (ci cw cg cj cx cy : Nat) (q : Qry) (w : World) (h : QLs K w pi pw pg ci cw cg q) (h' : QLs L w pj px py cj cx cy q) (hK : ∀ b, K b → b < w.heap.size) (hL : ∀ b, L b → b < w.heap.size) :
    Calls Tryz.prog 8 #[.agg (q.cl (.slice pi q.i.length ci) (.slice pw q.w.length cw) (.slice pg q.g.length cg)), .agg (q.cl (.slice pj q.i.length cj) (.slice px q.w.length cx) (.slice py q.g.length cy))] w fun e w' => e = .returned (.bool true) ∧ Below w.heap.size w w' := by
  obtain ⟨s0, hs0⟩ : ∃ s : ByteArray, (⟨q.t.toArray⟩ : ByteArray) = s := ⟨_, rfl⟩
  obtain ⟨s1, hs1⟩ : ∃ s : ByteArray, (⟨q.j.toArray⟩ : ByteArray) = s := ⟨_, rfl⟩
  obtain ⟨s2, hs2⟩ : ∃ s : ByteArray, (⟨q.a.toArray⟩ : ByteArray) = s := ⟨_, rfl⟩
  obtain ⟨s3, hs3⟩ : ∃ s : ByteArray, (⟨q.b.toArray⟩ : ByteArray) = s := ⟨_, rfl⟩
  obtain ⟨ni, hni⟩ : ∃ n, q.i.length = n := ⟨_, rfl⟩
  obtain ⟨nw, hnw⟩ : ∃ n, q.w.length = n := ⟨_, rfl⟩
  obtain ⟨ng, hng⟩ : ∃ n, q.g.length = n := ⟨_, rfl⟩
  have hcl : q.cl (.slice pi q.i.length ci) (.slice pw q.w.length cw) (.slice pg q.g.length cg) = #[.slice pi ni ci, .string s0, .string s1, .string s2, .string s3, .slice pw nw cw, .slice pg ng cg] := by unfold Qry.cl; rw [hs0, hs1, hs2, hs3, hni, hnw, hng]
  have hcl2 : q.cl (.slice pj q.i.length cj) (.slice px q.w.length cx) (.slice py q.g.length cy) = #[.slice pj ni cj, .string s0, .string s1, .string s2, .string s3, .slice px nw cx, .slice py ng cy] := by unfold Qry.cl; rw [hs0, hs1, hs2, hs3, hni, hnw, hng]
  have HN : Hid (q.i.length = ni) := hni
  obtain ⟨W0, hW0, hb0, hz0, g0, g1⟩ := two_boxes2 w #[.slice pi ni ci, .string s0, .string s1, .string s2, .string s3, .slice pw nw cw, .slice pg ng cg] #[.slice pj ni cj, .string s0, .string s1, .string s2, .string s3, .slice px nw cx, .slice py ng cy] 27 27
  have HG : Hid (∀ V, Below W0.heap.size W0 V → V.heap[w.heap.size]? = some (.cells #[.slice pi ni ci, .string s0, .string s1, .string s2, .string s3, .slice pw nw cw, .slice pg ng cg] 27 (0, 0)) ∧ V.heap[w.heap.size + 1]? = some (.cells #[.slice pj ni cj, .string s0, .string s1, .string s2, .string s3, .slice px nw cx, .slice py ng cy] 27 (0, 0)) ∧ Below w.heap.size w V) := fun V hb => ⟨(hb.block _ (by omega)).trans g0, (hb.block _ (by omega)).trans g1, hb0.trans (hb.mono hb0.size)⟩
  have CS : Hid (Calls Tryz.prog 15 #[.slice pw nw cw, .slice px nw cx] W0 fun e w' => e = .returned (.bool true) ∧ Below W0.heap.size W0 w') := by have := steps_eq _ _ q.w K L W0 ((h.below hK hb0).lw) ((h'.below hL hb0).lw) (fun b hb => Nat.lt_of_lt_of_le (hK b hb) hb0.size) (fun b hb => Nat.lt_of_lt_of_le (hL b hb) hb0.size); rw [hnw] at this; exact this
  have CT : Hid (∀ V, Below W0.heap.size W0 V → Calls Tryz.prog 16 #[.slice pg ng cg, .slice py ng cy] V fun e w' => e = .returned (.bool true) ∧ Below V.heap.size V w') := fun V hb => by have hbw := hb0.trans (hb.mono hb0.size); have := texts_eq _ _ q.g K L V ((h.below hK hbw).lg) ((h'.below hL hbw).lg) (fun b hb => Nat.lt_of_lt_of_le (hK b hb) hbw.size) (fun b hb => Nat.lt_of_lt_of_le (hL b hb) hbw.size); rw [hng] at this; exact this
  have hni9 : ni ≤ 4398046511104 := by
    obtain ⟨_, _, _, ⟨hb, _⟩, _⟩ := h.li
    omega
  have HLI := hid (And.intro h.li h'.li)
  have HKK := hid hK
  have HLL := hid hL
  have a1 := cell_of_row (k := 1) (v := .string s0) g0 rfl
  have a2 := cell_of_row (k := 2) (v := .string s1) g0 rfl
  have a3 := cell_of_row (k := 3) (v := .string s2) g0 rfl
  have a4 := cell_of_row (k := 4) (v := .string s3) g0 rfl
  have a5 := cell_of_row (k := 5) (v := .slice pw nw cw) g0 rfl
  have b1 := cell_of_row (k := 1) (v := .string s0) g1 rfl
  have b2 := cell_of_row (k := 2) (v := .string s1) g1 rfl
  have b3 := cell_of_row (k := 3) (v := .string s2) g1 rfl
  have b4 := cell_of_row (k := 4) (v := .string s3) g1 rfl
  have b5 := cell_of_row (k := 5) (v := .slice px nw cx) g1 rfl
  rw [hcl, hcl2]
  clear h h' hK hL hs0 hs1 hs2 hs3 hni hnw hng hcl hcl2 hb0 g0 g1 hz0
  go_enter Tryz.func8, Tryz.ntmps8
  go_wp2_with fail
  refine CS.out.mono ?_
  rintro e w1 ⟨rfl, hb1⟩
  obtain ⟨k0, k1, _⟩ := HG.out w1 hb1
  have a6 := cell_of_row (k := 6) (v := .slice pg ng cg) k0 rfl
  have b6 := cell_of_row (k := 6) (v := .slice py ng cy) k1 rfl
  have C2 := hid (CT.out w1 hb1)
  have HB1 := hid hb1
  clear CS CT hb1 k0 k1 a1 a2 a3 a4 a5 b1 b2 b3 b4 b5 hW0
  go_wp2_with fail
  refine C2.out.mono ?_
  rintro e w2 ⟨rfl, hb2⟩
  have hbw2 : Below W0.heap.size W0 w2 := HB1.out.trans (hb2.mono HB1.out.size)
  obtain ⟨k0, k1, _⟩ := HG.out w2 hbw2
  have a0 := cell_of_row (k := 0) (v := .slice pi ni ci) k0 rfl
  have b0 := cell_of_row (k := 0) (v := .slice pj ni cj) k1 rfl
  have HB2 := hid hbw2
  clear C2 hb2 hbw2 k0 k1 a6 b6 HB1
  go_wp2_with fail
  go_loopg [60] ni (fun gf s60 wx => ∃ i : Nat, s60 = .int .i64 i ∧ i ≤ ni ∧ ni ≤ i + gf ∧ Hid (Below W0.heap.size W0 wx))
  case atStart => exact ⟨0, rfl, by omega, by omega, HB2⟩
  case round =>
    clear HB2 a0 b0
    obtain ⟨i, rfl, hi1, hgf, HB⟩ := hrel
    obtain ⟨k0, k1, hbw⟩ := HG.out wr HB.out
    by_cases hi : i < ni
    · obtain ⟨g', rfl⟩ : ∃ g', gk = g' + 1 := ⟨gk - 1, by omega⟩
      have hil : i < q.i.length := by rw [HN.out]; exact hi
      have hkr : ∀ b, K b → b < wr.heap.size := fun b hb => Nat.lt_of_lt_of_le (HKK.out b hb) hbw.size
      have hlr : ∀ b, L b → b < wr.heap.size := fun b hb => Nat.lt_of_lt_of_le (HLL.out b hb) hbw.size
      obtain ⟨b, o, hp1, hKb, hc⟩ := itm_at (HLI.out.1.mono mItm (fun _ h => h) (kept_of HKK.out hbw)) (by omega)
      obtain ⟨b', o', hp2, hLb, hc'⟩ := itm_at (HLI.out.2.mono mItm (fun _ h => h) (kept_of HLL.out hbw)) (by omega)
      subst hp1
      subst hp2
      obtain ⟨u1, f1, hr1, hl1, -⟩ := hc i hil
      obtain ⟨u2, f2, hr2, hl2, -⟩ := hc' i hil
      obtain ⟨y, hy⟩ : ∃ y, q.i[i] = y := ⟨_, rfl⟩
      rw [hy] at hr1 hl1 hr2 hl2
      have n5 : ((y.g : Int) != (y.g : Int)) = false := by simp
      have cS : Hid (∀ p : LaterS wr.heap.size wr, Calls Tryz.prog 15 #[.slice u1 y.e.length f1, .slice u2 y.e.length f2] p.w fun e w' => e = .returned (.bool true) ∧ Below p.w.heap.size p.w w') := fun p =>
        steps_eq _ _ y.e K L p.w (hl1.later mStp hkr p.h) (hl2.later mStp hlr p.h) (fun b hb => Nat.lt_of_lt_of_le (hkr b hb) p.h.size) (fun b hb => Nat.lt_of_lt_of_le (hlr b hb) p.h.size)
      have c0 : ∀ p : LaterS wr.heap.size wr, p.w.cell? ⟨b, o + i * 2, none⟩ = some (.int .u8 (y.g : Int)) := fun p => (p.h.cell (p := ⟨b, _, none⟩) (hkr _ hKb)).trans (hr1 0 _ rfl)
      have c1 : ∀ p : LaterS wr.heap.size wr, p.w.cell? ⟨b, o + i * 2 + 1, none⟩ = some (.slice u1 y.e.length f1) := fun p => (p.h.cell (p := ⟨b, _, none⟩) (hkr _ hKb)).trans (hr1 1 _ rfl)
      have e0 : ∀ p : LaterS wr.heap.size wr, p.w.cell? ⟨b', o' + i * 2, none⟩ = some (.int .u8 (y.g : Int)) := fun p => (p.h.cell (p := ⟨b', _, none⟩) (hlr _ hLb)).trans (hr2 0 _ rfl)
      have e1 : ∀ p : LaterS wr.heap.size wr, p.w.cell? ⟨b', o' + i * 2 + 1, none⟩ = some (.slice u2 y.e.length f2) := fun p => (p.h.cell (p := ⟨b', _, none⟩) (hlr _ hLb)).trans (hr2 1 _ rfl)
      have m0 : ∀ p : LaterS wr.heap.size wr, p.w.cell? ⟨w.heap.size, 0, none⟩ = some (.slice (some ⟨b, o, none⟩) ni ci) := fun p => cell_of_row (k := 0) (HG.out p.w (HB.out.trans (p.h.mono HB.out.size))).1 rfl
      have m1 : ∀ p : LaterS wr.heap.size wr, p.w.cell? ⟨w.heap.size + 1, 0, none⟩ = some (.slice (some ⟨b', o', none⟩) ni cj) := fun p => cell_of_row (k := 0) (HG.out p.w (HB.out.trans (p.h.mono HB.out.size))).2.1 rfl
      have z0 : (0 : Int) ≤ (i : Int) := by omega
      have z1 : (i : Int) < (ni : Int) := by omega
      have HB3 : Hid (Below W0.heap.size W0 wr) := HB.out
      clear hc hc' hr1 hr2 hl1 hl2 hy HB hKb hLb hkr hlr hbw k0 k1 hil
      go_wp2_with fail
      have inhL := laterInh
      refine wp_region_laterS mixedOnS (by kernel_rfl) ?_
      repeat (go_big_quiet_step ((go_at_call 15; exact calls_laterS (cS.out _))))
      refine wpQuiet_nil ?_
      intro w2 hw'
      obtain ⟨⟨wq, hwq⟩, hw''⟩ := hw'
      subst hw''
      go_wp2_with fail
      go_roundg g'
      case measure => omega
      case rel => exact ⟨i + 1, by go_num, by omega, by omega, HB3.out.trans (hwq.mono HB3.out.size)⟩
    · have z1 : ¬ (i : Int) < (ni : Int) := by omega
      have HBW := hid hbw
      clear HB k0 k1 hbw
      go_wp2_with fail
      go_ret
      exact ⟨rfl, HBW.out⟩
end Go.Proofs.YthpcpaggbhgcoaaGreatDoor
/- A query of its own memory: the reference's Copy. -/
namespace Go.Proofs.YthpcpaggbhgcoaaGreatDoor
open Go.Shelf Go.RowKit Go.Lib Go.Sort
set_option linter.unusedVariables false
set_option linter.unusedSimpArgs false
attribute [local go_sem ↓] Go.wp_at_zero Go.wp_at_succ
theorem fStp : Flat rStp := ⟨fun _ _ _ _ _ _ h => h, fun K W cs x h u hu => by rw [h.1] at hu; simp at hu; rcases hu with rfl | rfl | rfl <;> rfl⟩
theorem fStr : Flat rStr := ⟨fun _ _ _ _ _ _ h => h, fun K W cs x h u hu => by rw [h.1] at hu; simp at hu; subst hu; rfl⟩
set_option maxRecDepth 100000 in
set_option maxHeartbeats 8000000 in
theorem copy_any (K : Nat → Prop) (pi pw pg : Option Addr) (ci cw cg : Nat) (q : Qry) (w : World) (h : QLs K w pi pw pg ci cw cg q) (hK : ∀ b, K b → b < w.heap.size) (hi64 : q.i.length ≤ 8 ∧ ∀ x ∈ q.i, x.e.length ≤ 64) :
    Calls Tryz.prog 11 #[.agg (q.cl (.slice pi q.i.length ci) (.slice pw q.w.length cw) (.slice pg q.g.length cg))] w fun e w' => (∃ pj px py cj cx cy, e = .returned (.agg (q.cl (.slice pj q.i.length cj) (.slice px q.w.length cx) (.slice py q.g.length cy))) ∧ QLs (From w.heap.size w') w' pj px py cj cx cy q) ∧ Below w.heap.size w w' := by
  obtain ⟨s0, hs0⟩ : ∃ s : ByteArray, (⟨q.t.toArray⟩ : ByteArray) = s := ⟨_, rfl⟩
  obtain ⟨s1, hs1⟩ : ∃ s : ByteArray, (⟨q.j.toArray⟩ : ByteArray) = s := ⟨_, rfl⟩
  obtain ⟨s2, hs2⟩ : ∃ s : ByteArray, (⟨q.a.toArray⟩ : ByteArray) = s := ⟨_, rfl⟩
  obtain ⟨s3, hs3⟩ : ∃ s : ByteArray, (⟨q.b.toArray⟩ : ByteArray) = s := ⟨_, rfl⟩
  obtain ⟨ni, hni⟩ : ∃ n, q.i.length = n := ⟨_, rfl⟩
  obtain ⟨nw, hnw⟩ : ∃ n, q.w.length = n := ⟨_, rfl⟩
  obtain ⟨ng, hng⟩ : ∃ n, q.g.length = n := ⟨_, rfl⟩
  have hcl : ∀ (a b c : Option Addr) (x y z : Nat), q.cl (.slice a q.i.length x) (.slice b q.w.length y) (.slice c q.g.length z) = #[.slice a ni x, .string s0, .string s1, .string s2, .string s3, .slice b nw y, .slice c ng z] := fun a b c x y z => by unfold Qry.cl; rw [hs0, hs1, hs2, hs3, hni, hnw, hng]
  have HCL := hid hcl
  have HN : Hid (q.i.length = ni ∧ q.w.length = nw ∧ q.g.length = ng) := ⟨hni, hnw, hng⟩
  have HIS := hid hi64
  obtain ⟨W0, hW0, hb0, hz0, g0, g1⟩ := two_boxes2 w #[.slice pi ni ci, .string s0, .string s1, .string s2, .string s3, .slice pw nw cw, .slice pg ng cg] #[.slice none 0 0, .string ⟨#[]⟩, .string ⟨#[]⟩, .string ⟨#[]⟩, .string ⟨#[]⟩, .slice none 0 0, .slice none 0 0] 27 27
  obtain ⟨is0, his0, hsz0, hsz1, hsz2⟩ := inE_stp
  obtain ⟨ir0, hir0, hrz0, hrz1, hrz2⟩ := inE_str
  obtain ⟨ii0, hii0, hiz0, hiz1, hiz2⟩ := inE_itm
  -- the condition's steps
  obtain ⟨W1, hW1⟩ : ∃ W1, W0.alloc (.cells #[] 40) = W1 := ⟨_, rfl⟩
  have hb1 : Below W0.heap.size W0 W1 := by rw [← hW1]; exact below_alloc _ _
  have hgA : W1.heap[W0.heap.size]? = some (.cells #[] 40 (0, 0)) := by rw [← hW1]; exact heap_alloc_new _ _
  have hbw1 : Below w.heap.size w W1 := hb0.trans (hb1.mono hb0.size)
  obtain ⟨X2, p5, c5, hC5⟩ := cpy_list fStp Tryz.underlying24 his0 hsz0 hsz1 hsz2 rfl (by omega) (by omega) hgA (h.below hK hbw1).lw
  rw [hnw] at hC5
  have hg2 : X2.heap[w.heap.size]? = some (.cells ([.slice pi ni ci, .string s0, .string s1, .string s2, .string s3, .slice pw nw cw, .slice pg ng cg] : List Value).toArray 27 (0, 0)) := (hC5.old _ (by have := hb1.size; omega) (by omega)).trans ((hb1.block _ (by omega)).trans g0)
  have hg2r : X2.heap[w.heap.size + 1]? = some (.cells #[.slice none 0 0, .string ⟨#[]⟩, .string ⟨#[]⟩, .string ⟨#[]⟩, .string ⟨#[]⟩, .slice none 0 0, .slice none 0 0] 27 (0, 0)) := (hC5.old _ (by have := hb1.size; omega) (by omega)).trans ((hb1.block _ (by omega)).trans g1)
  have hbw2 : Below w.heap.size w X2 := hC5.below _ _ hbw1 (by omega)
  obtain ⟨V3, hV3, cc3, cf3, hg3, hs3', hk3⟩ := box_put (k := 5) hg2 rfl (.slice p5 nw c5)
  have hg3r : V3.heap[w.heap.size + 1]? = some (.cells #[.slice none 0 0, .string ⟨#[]⟩, .string ⟨#[]⟩, .string ⟨#[]⟩, .string ⟨#[]⟩, .slice none 0 0, .slice none 0 0] 27 (0, 0)) := (hk3.block _ (by omega)).trans hg2r
  have hkw3 : Kept (fun b => b < w.heap.size) w V3 := (kept_of (fun b h => h) hbw2).trans (hk3.less fun b hb => by omega)
  -- the group's texts
  obtain ⟨W4, hW4⟩ : ∃ W4, V3.alloc (.cells #[] 9) = W4 := ⟨_, rfl⟩
  have hb4 : Below V3.heap.size V3 W4 := by rw [← hW4]; exact below_alloc _ _
  have hgB : W4.heap[V3.heap.size]? = some (.cells #[] 9 (0, 0)) := by rw [← hW4]; exact heap_alloc_new _ _
  have hkw4 : Kept (fun b => b < w.heap.size) w W4 := hkw3.trans (kept_of (fun b h => Nat.lt_of_lt_of_le h hkw3.size) hb4)
  obtain ⟨X5, p6, c6, hC6⟩ := cpy_list fStr Tryz.underlying25 hir0 hrz0 hrz1 hrz2 rfl (by omega) (by omega) hgB (h.kept (hkw4.less hK)).lg
  rw [hng] at hC6
  have hsz3 : w.heap.size + 2 ≤ V3.heap.size := by have := hb1.size; have := hC5.size_; omega
  have hg5 : X5.heap[w.heap.size]? = some (.cells ([.slice pi ni ci, .string s0, .string s1, .string s2, .string s3, .slice p5 nw c5, .slice pg ng cg] : List Value).toArray 27 (0, 0)) := (hC6.old _ (by have := hb4.size; omega) (by omega)).trans ((hb4.block _ (by omega)).trans hg3)
  have hg5r : X5.heap[w.heap.size + 1]? = some (.cells #[.slice none 0 0, .string ⟨#[]⟩, .string ⟨#[]⟩, .string ⟨#[]⟩, .string ⟨#[]⟩, .slice none 0 0, .slice none 0 0] 27 (0, 0)) := (hC6.old _ (by have := hb4.size; omega) (by omega)).trans ((hb4.block _ (by omega)).trans hg3r)
  obtain ⟨V6, hV6, cc6, cf6, hg6, hs6, hk6⟩ := box_put (k := 6) hg5 rfl (.slice p6 ng c6)
  have hg6r : V6.heap[w.heap.size + 1]? = some (.cells #[.slice none 0 0, .string ⟨#[]⟩, .string ⟨#[]⟩, .string ⟨#[]⟩, .string ⟨#[]⟩, .slice none 0 0, .slice none 0 0] 27 (0, 0)) := (hk6.block _ (by omega)).trans hg5r
  have hb5 : Below V3.heap.size V3 X5 := hC6.below _ _ hb4 (Nat.le_refl _)
  have hkw6 : Kept (fun b => b < w.heap.size) w V6 := (hkw3.trans (kept_of (fun b h => Nat.lt_of_lt_of_le h hkw3.size) hb5)).trans (hk6.less fun b hb => by omega)
  have HL6 := hid (h.kept (hkw6.less hK))
  have HS5 : Hid (ListIs rStp 3 32 (From (w.heap.size + 2) X2) V6 (.slice p5 q.w.length c5) q.w) := by
    refine hC5.list.mono mStp (fun b (hb : From W0.heap.size X2 b) => ⟨by have := hb.1; omega, hb.2⟩) ((hk3.less fun b (hb : From W0.heap.size X2 b) => by have := hb.1; omega).trans ((kept_of (fun b (hb : From W0.heap.size X2 b) => by have := hb.2; omega) hb5).trans (hk6.less fun b (hb : From W0.heap.size X2 b) => by have := hb.1; omega)))
  have HS6 : Hid (ListIs rStr 1 16 (From (w.heap.size + 2) X5) V6 (.slice p6 q.g.length c6) q.g) := by
    refine hC6.list.mono mStr (fun b (hb : From V3.heap.size X5 b) => ⟨by have := hb.1; omega, hb.2⟩) (hk6.less fun b (hb : From V3.heap.size X5 b) => by have := hb.1; omega)
  have hsz6 : w.heap.size + 2 ≤ V6.heap.size ∧ X2.heap.size ≤ V6.heap.size ∧ X5.heap.size ≤ V6.heap.size := ⟨by have := hb5.size; omega, by have := hb5.size; omega, by omega⟩
  have HSZ := hid hsz6
  have HKW := hid hkw6
  have HKK := hid hK
  have HG6 : Hid (V6.heap[w.heap.size]? = some (.cells #[.slice pi ni ci, .string s0, .string s1, .string s2, .string s3, .slice p5 nw c5, .slice p6 ng c6] 27 (0, 0)) ∧ V6.heap[w.heap.size + 1]? = some (.cells #[.slice none 0 0, .string ⟨#[]⟩, .string ⟨#[]⟩, .string ⟨#[]⟩, .string ⟨#[]⟩, .slice none 0 0, .slice none 0 0] 27 (0, 0))) := ⟨hg6, hg6r⟩
  have HLT : Hid (q.t.length ≤ 100000 ∧ q.j.length ≤ 100000 ∧ q.a.length ≤ 100000 ∧ q.b.length ≤ 100000) := ⟨h.lt, h.lj, h.la, h.lb⟩
  have hRUN5 := hC5.run
  have hRUN6 := hC6.run
  rw [hnw] at hRUN5
  rw [hng] at hRUN6
  have l1 := cell_of_row (k := 5) (v := .slice pw nw cw) ((hb1.block _ (by omega)).trans g0) rfl
  have l2 := cell_of_row (k := 6) (v := .slice pg ng cg) ((hb4.block _ (by omega)).trans hg3) rfl
  have l3 := cell_of_row (k := 0) (v := .slice pi ni ci) hg6 rfl
  rw [hcl]
  clear h hK hi64 hs0 hs1 hs2 hs3 hni hnw hng hcl hb0 hz0 g0 g1 hb1 hgA hbw1 hC5 hg2 hg2r hbw2 hg3 hs3' hk3 hg3r hkw3 hb4 hgB hkw4 hC6 hsz3 hg5 hg5r hg6 hs6 hk6 hg6r hb5 hkw6 hsz6
  go_enter Tryz.func11, Tryz.ntmps11
  go_wp2_with (first | (at_builtin; refine Lib.wpList_append_run _ rfl _ _ _ _ rfl (.slice (some ⟨W0.heap.size, 0, none⟩) 0 0) (.slice pw nw cw) rfl rfl _ _ hRUN5 ?_) | (at_builtin; refine Lib.wpList_append_run _ rfl _ _ _ _ rfl (.slice (some ⟨V3.heap.size, 0, none⟩) 0 0) (.slice pg ng cg) rfl rfl _ _ hRUN6 ?_))
  go_loopg [3, 19] ni (fun gf s3 s19 wx => ∃ (i : Nat) (a : Option Addr) (cc : Nat), s3 = .slice a i cc ∧ s19 = .int .i64 i ∧ i ≤ ni ∧ ni ≤ i + gf ∧ Hid (Below V6.heap.size V6 wx) ∧ Hid (OwnR rItm 2 43 V6.heap.size wx (.slice a i cc) (q.i.take i)))
  case atStart => exact ⟨0, none, 0, rfl, rfl, by omega, by omega, Below.refl _ _, OwnR.none (World.ownsRow_nil _ _ _ _)⟩
  case round =>
    clear l1 l2 l3 hRUN5 hRUN6 cc3 cf3 cc6 cf6 hV3 hV6 hW0 hW1 hW4
    obtain ⟨i, a, cc, rfl, rfl, hi1, hgf, HB, HO⟩ := hrel
    have hni8 : ni ≤ 8 := by have := HIS.out.1; have := HN.out.1; omega
    by_cases hi : i < ni
    · obtain ⟨g', rfl⟩ : ∃ g', gk = g' + 1 := ⟨gk - 1, by omega⟩
      have hil : i < q.i.length := by rw [HN.out.1]; exact hi
      have hbw := HB.out
      have hK6 : ∀ b, K b → b < V6.heap.size := fun b hb => Nat.lt_of_lt_of_le (HKK.out b hb) HKW.out.size
      obtain ⟨b, o, hq, _, hc⟩ := itm_at (HL6.out.li.mono mItm (fun _ h => h) (kept_of hK6 hbw)) (by omega)
      obtain ⟨p, cp, hrg, hli, h256⟩ := hc i hil
      have htk : q.i.take (i + 1) = q.i.take i ++ [q.i[i]] := List.take_succ_eq_append_getElem hil
      have he64 := HIS.out.2 _ (List.getElem_mem hil)
      obtain ⟨y, hy⟩ : ∃ y, q.i[i] = y := ⟨_, rfl⟩
      rw [hy] at hrg hli h256 htk he64
      obtain ⟨gi, hgi⟩ : ∃ gi : Int, (y.g : Int) = gi := ⟨_, rfl⟩
      obtain ⟨m, hm⟩ : ∃ m, y.e.length = m := ⟨_, rfl⟩
      rw [hgi, hm] at hrg
      have HRG := hid hrg
      obtain ⟨WA, hWA, hth, V1, hV1, hg1, hb1⟩ := box_two wr 43 (.int .u8 0) (.slice none 0 0) (.int .u8 gi) (.slice p m cp)
      have HTH := hid hth
      have HV1 := hid hV1
      have HON : Hid ((#[.int .u8 gi, .slice p m cp] : Array Value).all (·.oneCell') = true) := by show _ = _; simp [Value.oneCell']
      have hl1 : wr.heap.size < V1.heap.size := (Array.getElem?_eq_some_iff.1 hg1).1
      obtain ⟨D, hD⟩ : ∃ D, V1.drew = D := ⟨_, rfl⟩
      have hbD : Below wr.heap.size wr D := by rw [← hD]; exact hb1.drew
      have hgD : D.heap[wr.heap.size]? = some (.cells #[.int .u8 gi, .slice p m cp] 43 (0, 0)) := by rw [← hD]; exact hg1
      have hlD : wr.heap.size < D.heap.size := by rw [← hD]; exact hl1
      obtain ⟨A1, hA1⟩ : ∃ A1, D.alloc (.cells #[] 40) = A1 := ⟨_, rfl⟩
      have hbA : Below D.heap.size D A1 := by rw [← hA1]; exact below_alloc _ _
      have hgA : A1.heap[D.heap.size]? = some (.cells #[] 40 (0, 0)) := by rw [← hA1]; exact heap_alloc_new _ _
      have hbwA : Below wr.heap.size wr A1 := hbD.trans (hbA.mono hbD.size)
      have hKr : ∀ b, K b → b < wr.heap.size := fun b hb => Nat.lt_of_lt_of_le (hK6 b hb) hbw.size
      obtain ⟨X, p2, c2, hC⟩ := cpy_list fStp Tryz.underlying24 his0 hsz0 hsz1 hsz2 rfl (by omega) (by omega) hgA (hli.mono mStp (fun _ h => h) (kept_of hKr hbwA))
      have hbX : Below wr.heap.size wr X := hC.below _ _ hbwA (by omega)
      have hOX := HO.out.keep mItm hbX
      have hlen : (q.i.take i).length = i := (ownForm HO.out).1.symm
      have hob := HO.out.lt
      have hob2 : ∀ g, (Value.slice a i cc).ownBlock = some g → g < wr.heap.size := hob
      have hsX : wr.heap.size < X.heap.size := by have := hC.size_; have := hbA.size; omega
      obtain ⟨v', X3, e2, ho3, hB3, hs3, hk3⟩ := hOX.push mItm (bytes := 32) (ts := 23) Tryz.underlying23 hii0 hiz0 hiz1 hiz2 rfl (by omega) (by have := hbw.size; omega) (x := y) (cs := [.int .u8 gi, .slice p2 m c2]) (K2 := From D.heap.size X) rfl (by intro c hc; simp at hc; rcases hc with rfl | rfl <;> rfl) (fun b hb => ⟨by have := hb.1; have := hbw.size; omega, hb.2, fun e => by have := hob2 b e; have := hb.1; omega⟩) ⟨_, by rw [hgi, ← hm], hC.list, h256, he64⟩ (by rw [hlen]; omega) (by rw [hlen]; unfold maxLen; omega)
      have hrun := hC.run
      rw [hm] at hrun
      have HRUN := hid hrun
      have HE2 := hid e2
      have HB5 : Hid (Below V6.heap.size V6 X3) := hB3 _ _ (hbw.trans (hbX.mono hbw.size)) (Nat.le_refl _)
      obtain ⟨a', cc', ev⟩ := ho3.slice
      rw [List.length_append, hlen] at ev
      have ev2 : v' = .slice a' (i + 1) cc' := ev
      subst ev2
      have HO5 : Hid (OwnR rItm 2 43 V6.heap.size X3 (.slice a' (i + 1) cc') (q.i.take (i + 1))) := by show OwnR _ _ _ _ _ _ _; rw [htk]; exact ho3
      have hcell : ∀ V : World, V.heap[wr.heap.size]? = some (.cells #[.int .u8 gi, .slice p m cp] 43 (0, 0)) → V.cell? ⟨wr.heap.size, 0, none⟩ = some (.int .u8 gi) ∧ V.cell? ⟨wr.heap.size, 1, none⟩ = some (.slice p m cp) := fun V hV => ⟨cell_of_row hV rfl, cell_of_row hV rfl⟩
      have hgX : X.heap[wr.heap.size]? = some (.cells #[.int .u8 gi, .slice p m cp] 43 (0, 0)) := (hC.old _ (by have := hbA.size; omega) (by omega)).trans ((hbA.block _ hlD).trans hgD)
      have HSD := hid (hcell D hgD)
      have HSA := hid (hcell A1 ((hbA.block _ hlD).trans hgD))
      have HSX := hid (hcell X hgX)
      have HSB : Hid ((X.alloc (.cells #[.int .u8 gi, .slice p2 m c2] 43)).cell? ⟨wr.heap.size, 0, none⟩ = some (.int .u8 gi) ∧ (X.alloc (.cells #[.int .u8 gi, .slice p2 m c2] 43)).cell? ⟨wr.heap.size, 1, none⟩ = some (.slice p m cp)) := hcell _ ((Go.heap_alloc_old X _ hsX).trans hgX)
      have HS3 := hid (hcell X3 ((hk3 _ hsX (fun e => by have := hob2 _ e; omega)).trans hgX))
      have z0 : (0 : Int) ≤ (i : Int) := by omega
      have z1 : (i : Int) < (ni : Int) := by omega
      subst hq
      clear hc hrg hli h256 htk he64 hy hgi hm hth hV1 hg1 hb1 hl1 hbD hgD hlD hbA hgA hbwA hKr hC hbX hOX hlen hob hob2 hsX e2 ho3 hB3 hs3 hk3 hrun ev hcell hgX hbw hK6 hil HB HO
      go_wp2_with (first | (refine wpList_load_mid rfl 43 _ rfl b (o + i * 2) rfl _ _ HRG.out Tryz.underlying43 rfl sz_item ?_) | (refine wpList_store_mid rfl 43 _ _ rfl wr.heap.size 0 #[.int .u8 gi, .slice p m cp] rfl rfl HTH.out sz_item HON.out ?_; rw [show WA.setCells wr.heap.size 0 (#[.int .u8 gi, .slice p m cp] : Array Value).toList = V1 from HV1.out]))
      refine wp_region_held_drew (S := fun V => V.cell? ⟨wr.heap.size, 0, none⟩ = some (.int .u8 gi) ∧ V.cell? ⟨wr.heap.size, 1, none⟩ = some (.slice p m cp)) (by kernel_rfl) (by rw [hD]; exact HSD.out) (fun hHeld => ?_)
      refine wpAnyH_take (i := 0) (v := .slice a i cc) rfl (by kernel_rfl) (by kernel_rfl) (by kernel_rfl) (fun _ _ _ h => h) (.inl ⟨by rfl, fun W hW => by go_simp⟩) hHeld ?_
      simp only [Act.put, List.getElem_toArray, List.getElem_cons_zero, List.getElem_cons_succ, List.setIfInBounds_toArray, List.set_cons_zero, List.set_cons_succ]
      refine wpAnyH_take (i := 1) (v := .pointer (some ⟨wr.heap.size, 0, none⟩)) rfl (by kernel_rfl) (by kernel_rfl) (by kernel_rfl) (fun _ _ _ h => h) (.inl ⟨by rfl, fun W hW => by obtain ⟨h37, h38⟩ := hW; go_simp⟩) hHeld ?_
      simp only [Act.put, List.getElem_toArray, List.getElem_cons_zero, List.getElem_cons_succ, List.setIfInBounds_toArray, List.set_cons_zero, List.set_cons_succ]
      refine wpAnyH_take (i := 2) (v := .int .u8 gi) rfl (by kernel_rfl) (by kernel_rfl) (by kernel_rfl) (fun _ _ _ h => h) (.inl ⟨by rfl, fun W hW => by obtain ⟨h37, h38⟩ := hW; go_simp⟩) hHeld ?_
      simp only [Act.put, List.getElem_toArray, List.getElem_cons_zero, List.getElem_cons_succ, List.setIfInBounds_toArray, List.set_cons_zero, List.set_cons_succ]
      refine wpAnyH_take (i := 4) (v := .pointer (some ⟨wr.heap.size, 1, none⟩)) rfl (by kernel_rfl) (by kernel_rfl) (by kernel_rfl) (fun _ _ _ h => h) (.inl ⟨by rfl, fun W hW => by obtain ⟨h37, h38⟩ := hW; go_simp⟩) hHeld ?_
      simp only [Act.put, List.getElem_toArray, List.getElem_cons_zero, List.getElem_cons_succ, List.setIfInBounds_toArray, List.set_cons_zero, List.set_cons_succ]
      refine wpAnyH_take (i := 5) (v := .slice p m cp) rfl (by kernel_rfl) (by kernel_rfl) (by kernel_rfl) (fun _ _ _ h => h) (.inl ⟨by rfl, fun W hW => by obtain ⟨h37, h38⟩ := hW; go_simp⟩) hHeld ?_
      simp only [Act.put, List.getElem_toArray, List.getElem_cons_zero, List.getElem_cons_succ, List.setIfInBounds_toArray, List.set_cons_zero, List.set_cons_succ]
      rw [hD] at hHeld ⊢
      clear hD
      refine wpAnyH_ready (rs := [3]) (by kernel_rfl) (by simp) ?_
      refine AllReadyH.cons rfl (fun K' hK => ?_) AllReadyH.nil
      rw [if_pos (by rfl)]
      go_simp
      refine hK _ _ HSA.out (fun hHeld => ?_)
      clear hK K'
      refine wpAnyH_ready (rs := [6]) (by kernel_rfl) (by simp) ?_
      refine AllReadyH.cons rfl (fun K' hK => ?_) AllReadyH.nil
      rw [if_pos (by rfl)]
      refine wp_append_run _ _ 24 24 rfl (.slice (some ⟨D.heap.size, 0, none⟩) 0 0) (.slice p m cp) rfl rfl _ _ HRUN.out ?_
      simp only [Act.put, List.getElem_toArray, List.getElem_cons_zero, List.getElem_cons_succ, List.setIfInBounds_toArray, List.set_cons_zero, List.set_cons_succ]
      refine hK _ _ HSX.out (fun hHeld => ?_)
      clear hK K'
      refine wpAnyH_ready (rs := [7]) (by kernel_rfl) (by simp) ?_
      refine AllReadyH.cons rfl (fun K' hK => ?_) AllReadyH.nil
      rw [if_pos (by rfl)]
      go_simp
      refine hK _ _ HSX.out (fun hHeld => ?_)
      clear hK K'
      refine wpAnyH_ready (rs := [8]) (by kernel_rfl) (by simp) ?_
      refine AllReadyH.cons rfl (fun K' hK => ?_) AllReadyH.nil
      rw [if_pos (by rfl)]
      go_simp
      refine hK _ _ HSB.out (fun hHeld => ?_)
      clear hK K'
      refine wpAnyH_ready (rs := [9]) (by kernel_rfl) (by simp) ?_
      refine AllReadyH.cons rfl (fun K' hK => ?_) AllReadyH.nil
      rw [if_pos (by rfl)]
      refine wp_append_run _ _ 23 23 rfl (.slice a i cc) (.slice (some ⟨X.heap.size, 0, none⟩) 1 1) rfl rfl _ _ HE2.out ?_
      simp only [Act.put, List.getElem_toArray, List.getElem_cons_zero, List.getElem_cons_succ, List.setIfInBounds_toArray, List.set_cons_zero, List.set_cons_succ]
      refine hK _ _ HS3.out (fun hHeld => ?_)
      clear hK K'
      refine wpAnyH_ready (rs := [10]) (by kernel_rfl) (by simp) ?_
      refine AllReadyH.cons rfl (fun K' hK => ?_) AllReadyH.nil
      rw [if_pos (by rfl)]
      go_simp
      refine hK _ _ hHeld (fun hHeld => ?_)
      clear hK K'
      refine wpAnyH_done (by kernel_rfl) ?_ _
      clear hHeld
      go_wp2_with fail
      go_roundg g'
      case measure => omega
      case rel => exact ⟨i + 1, a', cc', rfl, by go_num, by omega, by omega, HB5, HO5⟩
    · have z1 : ¬ (i : Int) < (ni : Int) := by omega
      have htk : q.i.take i = q.i := List.take_of_length_le (by rw [HN.out.1]; omega)
      have hiN : i = ni := by omega
      have hO := HO.out
      rw [htk] at hO
      have hbw := HB.out
      have hsz := HSZ.out
      obtain ⟨pj, cj, ej, hlj⟩ := hO.list mItm (bytes := 32) (by have := HIS.out.1; omega)
      have hgw : wr.heap[w.heap.size]? = some (.cells ([.slice pi ni ci, .string s0, .string s1, .string s2, .string s3, .slice p5 nw c5, .slice p6 ng c6] : List Value).toArray 27 (0, 0)) := (hbw.block _ (by omega)).trans HG6.out.1
      have hgr : wr.heap[w.heap.size + 1]? = some (.cells #[.slice none 0 0, .string ⟨#[]⟩, .string ⟨#[]⟩, .string ⟨#[]⟩, .string ⟨#[]⟩, .slice none 0 0, .slice none 0 0] 27 (0, 0)) := (hbw.block _ (by omega)).trans HG6.out.2
      obtain ⟨V7, hV7, cc7, cf7, hg7, hs7, hk7⟩ := box_put (k := 0) hgw rfl (.slice a i cc)
      have hg7r : V7.heap[w.heap.size + 1]? = some (.cells #[.slice none 0 0, .string ⟨#[]⟩, .string ⟨#[]⟩, .string ⟨#[]⟩, .string ⟨#[]⟩, .slice none 0 0, .slice none 0 0] 27 (0, 0)) := (hk7.block _ (by omega)).trans hgr
      have hg7' : V7.heap[w.heap.size]? = some (.cells #[.slice a i cc, .string s0, .string s1, .string s2, .string s3, .slice p5 nw c5, .slice p6 ng c6] 27 (0, 0)) := hg7
      obtain ⟨hth, X8, hX8, hld, hsX, hkX⟩ := put_row V7 (w.heap.size + 1) _ 27 hg7r [.slice a i cc, .string s0, .string s1, .string s2, .string s3, .slice p5 nw c5, .slice p6 ng c6] rfl Tryz.underlying27 rfl sz_qry
      have HR7 : Hid (V7.rangeAt w.heap.size 0 [.slice a i cc, .string s0, .string s1, .string s2, .string s3, .slice p5 nw c5, .slice p6 ng c6]) := fun j u hu => by rw [Nat.zero_add]; exact cell_of_row hg7' (by simpa using hu)
      have HTH := hid hth
      have HX8 : Hid (V7.setCells (w.heap.size + 1) 0 (#[.slice a i cc, .string s0, .string s1, .string s2, .string s3, .slice p5 nw c5, .slice p6 ng c6] : Array Value).toList = X8) := hX8
      have HLD : Hid ((loadVar 27 ⟨w.heap.size + 1, 0, none⟩).run Tryz.prog X8 = .ok (.agg #[.slice a i cc, .string s0, .string s1, .string s2, .string s3, .slice p5 nw c5, .slice p6 ng c6]) X8) := hld
      have HON : Hid ((#[.slice a i cc, .string s0, .string s1, .string s2, .string s3, .slice p5 nw c5, .slice p6 ng c6] : Array Value).all (·.oneCell') = true) := by show _ = _; simp [Value.oneCell']
      have hk2 : ∀ b, w.heap.size + 2 ≤ b → X8.heap[b]? = wr.heap[b]? := fun b hb => (hkX.block b (by omega)).trans (hk7.block b (by omega))
      have hkp : Kept (fun b => w.heap.size + 2 ≤ b) wr X8 := ⟨hkX.os.trans hk7.os, hkX.tape.trans hk7.tape, hkX.output.trans hk7.output, by omega, hk2⟩
      have HF : Hid (QLs (From w.heap.size X8) X8 a p5 p6 cc c5 c6 q ∧ Below w.heap.size w X8) := by
        refine ⟨⟨?_, ?_, ?_, HLT.out.1, HLT.out.2.1, HLT.out.2.2.1, HLT.out.2.2.2⟩, ?_⟩
        · simp only [Value.slice.injEq] at ej
          obtain ⟨ea, -, ec⟩ := ej
          rw [ea, ec]
          exact hlj.mono mItm (fun b (hb : From V6.heap.size wr b) => ⟨by have := hb.1; omega, by have := hb.2; omega⟩) (hkp.less fun b (hb : From V6.heap.size wr b) => by have := hb.1; omega)
        · have h5 := HS5.out
          exact h5.mono mStp (fun b (hb : From (w.heap.size + 2) X2 b) => ⟨by have := hb.1; omega, by have := hb.2; have := hbw.size; omega⟩) ((kept_of (fun b (hb : From (w.heap.size + 2) X2 b) => by have := hb.2; omega) hbw).trans (hkp.less fun b (hb : From (w.heap.size + 2) X2 b) => hb.1))
        · have h6 := HS6.out
          exact h6.mono mStr (fun b (hb : From (w.heap.size + 2) X5 b) => ⟨by have := hb.1; omega, by have := hb.2; have := hbw.size; omega⟩) ((kept_of (fun b (hb : From (w.heap.size + 2) X5 b) => by have := hb.2; omega) hbw).trans (hkp.less fun b (hb : From (w.heap.size + 2) X5 b) => hb.1))
        · have hw6 := HKW.out
          exact ⟨hkX.os.trans (hk7.os.trans (hbw.os.trans hw6.os)), hkX.tape.trans (hk7.tape.trans (hbw.tape.trans hw6.tape)), hkX.output.trans (hk7.output.trans (hbw.output.trans hw6.output)), by have := hbw.size; have := hw6.size; omega, fun b hb => (hkX.block b (by omega)).trans ((hk7.block b (by omega)).trans ((hbw.block b (by omega)).trans (hw6.block b hb)))⟩
      subst hiN
      have HCL2 : Hid (q.cl (.slice a q.i.length cc) (.slice p5 q.w.length c5) (.slice p6 q.g.length c6) = #[.slice a i cc, .string s0, .string s1, .string s2, .string s3, .slice p5 nw c5, .slice p6 ng c6]) := HCL.out _ _ _ _ _ _
      clear htk hO hbw hsz ej hlj hgw hgr hg7 hs7 hk7 hg7r hg7' hth hX8 hld hsX hkX hk2 hkp HB HO HG6 HS5 HS6 HL6 HKW HCL
      go_wp2_with (first | (refine wpList_load_mid rfl 27 _ rfl w.heap.size 0 rfl _ _ HR7.out Tryz.underlying27 rfl sz_qry ?_) | (refine wpList_store_mid rfl 27 _ _ rfl (w.heap.size + 1) 0 #[.slice a i cc, .string s0, .string s1, .string s2, .string s3, .slice p5 nw c5, .slice p6 ng c6] rfl rfl HTH.out sz_qry HON.out ?_; rw [HX8.out]))
      refine bodyPost_ret (v := .agg #[.slice a i cc, .string s0, .string s1, .string s2, .string s3, .slice p5 nw c5, .slice p6 ng c6]) (by simp only [results, Tryz.results11]; simp [asAddr, Act.put, HLD.out]) rfl ?_
      exact ⟨⟨a, p5, p6, cc, c5, c6, by rw [HCL2.out], HF.out.1⟩, HF.out.2⟩
end Go.Proofs.YthpcpaggbhgcoaaGreatDoor
