/- What bound does answers. -/
import Derived.Test.YtajomnfeicfdlaaGreatDoorWnWoWp
import Derived.Test.YtajomnfeicfdlaaGreatDoorPc
import Derived.Test.YtajomnfeicfdlaaGreatDoorPd
import Derived.Test.YtajomnfeicfdlaaGreatDoorLItmLTxtLKnd
namespace Go.Proofs.YtajomnfeicfdlaaGreatDoor
open Go.Shelf Go.RowKit Go.Lib
set_option linter.unusedVariables false
set_option linter.unusedSimpArgs false
attribute [local go_sem ↓] Go.wp_at_zero Go.wp_at_succ
theorem itm35 (t p : Nat) : ListC rItm 2 32 64 itmP itm0 2080 t p 123 (.func (.func 124) #[wk t p] #[]) :=
 list35_any itmP itm0 64 2080 t p 124 (wk t p) (by omega) (by omega) grows_itm e36 (item_part t p)
theorem knd39 (t p : Nat) : ListC rKnd 1 1 64 octP 0 1 t p 127 (.func (.func 128) #[wk t p] #[]) :=
 list39_any octP 0 64 1 t p 128 (wk t p) (by omega) (by omega) grows_oct e40 (knd_part t p)
theorem nam38 (t p : Nat) : ListC rTxt 1 16 64 txtP s0 2058 t p 126 (.func (.method "potsherd/wire.text") #[.iface t (.pointer (some ⟨p, 0, none⟩))] #[]) :=
 list38_any txtP s0 64 2058 t p (by omega) (by omega) grows_txt (txt_part t p)
set_option maxRecDepth 100000 in
set_option maxHeartbeats 8000000 in
theorem bound_field (t p : Nat) : FieldC rBnd 7 11 bndP 10500 t p 107 := by
 intro K D w st mb cur cs ⟨xt, xj, xw, xl, xr, xh, xg, xi, xd, xn, xk⟩ htb hnk hbm hDK hlen hcur hrel h hl
 obtain ⟨v1, v2, v3, v4, v5, hcs, ht1, ht2, hi1, hi2, hi3, hva, hvb, hvc, hvd, hve⟩ := hrel
 simp only at ht1 ht2 hi1 hi2 hi3 hva hvb hvc hvd hve
 have hvax := hva
 obtain ⟨qa, ca, hva0, _⟩ := hvax
 subst hva0
 have hvbx := hvb
 obtain ⟨qb, cb, hvb0, _⟩ := hvbx
 subst hvb0
 have hvcx := hvc
 obtain ⟨qc, cc, hvc0, _⟩ := hvcx
 subst hvc0
 have hvdx := hvd
 obtain ⟨qd, cd, hvd0, _⟩ := hvdx
 subst hvd0
 have hvex := hve
 obtain ⟨qe, ce, hve0, _⟩ := hvex
 subst hve0
 replace hcs : cs = [Value.string xt, Value.string xj, Value.int .i64 xw, Value.int .i64 xl, Value.int .i64 xr, Value.slice qa xh.length ca, Value.slice qb xg.length cb, Value.slice qc xi.length cc, Value.bool xd, Value.slice qd xn.length cd, Value.slice qe xk.length ce] := hcs
 subst hcs
 have hmt := m_txt h.isT p
 have egt := e_txt h.isT
 obtain ⟨TF, hTF⟩ : ∃ F, txF t = F := ⟨_, rfl⟩
 rw [hTF] at hmt egt
 have hml : mb < w.heap.size := (Array.getElem?_eq_some_iff.1 hbm).1
 obtain ⟨W0, hW0, hF0⟩ := Fm.start (lo := 7) h hnk hbm hcur
 obtain ⟨⟨a1, s1⟩, r1⟩ : ∃ q, txtP st xt = q := ⟨_, rfl⟩
 have g1 := grows_txt st xt
 rw [r1] at g1
 simp only at g1
 have n1 : small a1 := by have := txtP_small st xt (by assumption); rw [r1] at this; exact this
 have C1 : Hid (Calls Tryz.prog TF #[.pointer (some ⟨p, 0, none⟩), .string xt] W0.drew fun e w' => e = .returned (.string a1) ∧ Fm K noB w t p mb 7 cur [Value.string xt, Value.string xj, Value.int .i64 xw, Value.int .i64 xl, Value.int .i64 xr, Value.slice qa xh.length ca, Value.slice qb xg.length cb, Value.slice qc xi.length cc, Value.bool xd, Value.slice qd xn.length cd, Value.slice qe xk.length ce] w' s1 ∧ Kept (fun b => K b ∨ noB b) W0.drew w') := by
  refine hF0.drew.call (R := fun e => e = .returned (.string a1)) ?_
  have := txt_any _ t p st xt W0.drew hF0.drew.port (by first | assumption | omega) (by omega)
  rw [r1, hTF] at this
  exact this
 have cw1 : W0.drew.cell? ⟨w.heap.size, 0, none⟩ = _ := hF0.drew.cell0
 have cc1_0 : W0.drew.cell? ⟨mb, 7, none⟩ = _ := hF0.drew.cell1 (k := 7) (i := 0) rfl rfl
 have HF1 : Hid (Fm K noB w t p mb 7 cur [Value.string xt, Value.string xj, Value.int .i64 xw, Value.int .i64 xl, Value.int .i64 xr, Value.slice qa xh.length ca, Value.slice qb xg.length cb, Value.slice qc xi.length cc, Value.bool xd, Value.slice qd xn.length cd, Value.slice qe xk.length ce] W0 st) := hF0
 clear hF0
 show Calls Tryz.prog 107 #[.agg #[.iface t (.pointer (some ⟨p, 0, none⟩))], .pointer (some ⟨mb, 0, none⟩)] w _
 go_enter Tryz.func107, Tryz.ntmps107
 go_wp2_with fail
 refine via (A := fun WX => Fm K noB w t p mb 7 cur [Value.string a1, Value.string xj, Value.int .i64 xw, Value.int .i64 xl, Value.int .i64 xr, Value.slice qa xh.length ca, Value.slice qb xg.length cb, Value.slice qc xi.length cc, Value.bool xd, Value.slice qd xn.length cd, Value.slice qe xk.length ce] WX s1 ∧ Kept (fun b => K b ∨ noB b) W0 WX) (Q := ?Q1) (fun key => ?a1) ?b1
 case a1 =>
  go_region_with (go_at_fn TF; refine C1.out.mono ?_; rintro e w1 ⟨rfl, hF1a, hKa1⟩; have x1_0 := hF1a.cell1 (k := 7) (i := 0) rfl rfl; have z1_0 := hF1a.fz1 7; obtain ⟨W1_0, hW1_0, hF1_0, hK1_0⟩ := hF1a.set1 7 0 (Value.string a1) rfl (by simp); replace hF1_0 : Fm K noB w t p mb 7 cur [Value.string a1, Value.string xj, Value.int .i64 xw, Value.int .i64 xl, Value.int .i64 xr, Value.slice qa xh.length ca, Value.slice qb xg.length cb, Value.slice qc xi.length cc, Value.bool xd, Value.slice qd xn.length cd, Value.slice qe xk.length ce] W1_0 s1 := hF1_0)
  all_goals exact key _ ⟨hF1_0, (((Kept.refl _ _).drew.trans hKa1).trans hK1_0)⟩
 rintro W1 ⟨hF1b, hK1⟩
 clear C1 cw1 HF1 hK1 cc1_0
 obtain ⟨⟨a2, s2⟩, r2⟩ : ∃ q, txtP s1 xj = q := ⟨_, rfl⟩
 have g2 := grows_txt s1 xj
 rw [r2] at g2
 simp only at g2
 have n2 : small a2 := by have := txtP_small s1 xj (by assumption); rw [r2] at this; exact this
 have C2 : Hid (Calls Tryz.prog TF #[.pointer (some ⟨p, 0, none⟩), .string xj] W1.drew fun e w' => e = .returned (.string a2) ∧ Fm K noB w t p mb 7 cur [Value.string a1, Value.string xj, Value.int .i64 xw, Value.int .i64 xl, Value.int .i64 xr, Value.slice qa xh.length ca, Value.slice qb xg.length cb, Value.slice qc xi.length cc, Value.bool xd, Value.slice qd xn.length cd, Value.slice qe xk.length ce] w' s2 ∧ Kept (fun b => K b ∨ noB b) W1.drew w') := by
  refine hF1b.drew.call (R := fun e => e = .returned (.string a2)) ?_
  have := txt_any _ t p s1 xj W1.drew hF1b.drew.port (by first | assumption | omega) (by omega)
  rw [r2, hTF] at this
  exact this
 have cw2 : W1.drew.cell? ⟨w.heap.size, 0, none⟩ = _ := hF1b.drew.cell0
 have cc2_0 : W1.drew.cell? ⟨mb, 8, none⟩ = _ := hF1b.drew.cell1 (k := 8) (i := 1) rfl rfl
 have HF2 : Hid (Fm K noB w t p mb 7 cur [Value.string a1, Value.string xj, Value.int .i64 xw, Value.int .i64 xl, Value.int .i64 xr, Value.slice qa xh.length ca, Value.slice qb xg.length cb, Value.slice qc xi.length cc, Value.bool xd, Value.slice qd xn.length cd, Value.slice qe xk.length ce] W1 s1) := hF1b
 clear hF1b
 go_wp2_with fail
 refine via (A := fun WX => Fm K noB w t p mb 7 cur [Value.string a1, Value.string a2, Value.int .i64 xw, Value.int .i64 xl, Value.int .i64 xr, Value.slice qa xh.length ca, Value.slice qb xg.length cb, Value.slice qc xi.length cc, Value.bool xd, Value.slice qd xn.length cd, Value.slice qe xk.length ce] WX s2 ∧ Kept (fun b => K b ∨ noB b) W1 WX) (Q := ?Q2) (fun key => ?a2) ?b2
 case a2 =>
  go_region_with (go_at_fn TF; refine C2.out.mono ?_; rintro e w2 ⟨rfl, hF2a, hKa2⟩; have x2_0 := hF2a.cell1 (k := 8) (i := 1) rfl rfl; have z2_0 := hF2a.fz1 8; obtain ⟨W2_0, hW2_0, hF2_0, hK2_0⟩ := hF2a.set1 8 1 (Value.string a2) rfl (by simp); replace hF2_0 : Fm K noB w t p mb 7 cur [Value.string a1, Value.string a2, Value.int .i64 xw, Value.int .i64 xl, Value.int .i64 xr, Value.slice qa xh.length ca, Value.slice qb xg.length cb, Value.slice qc xi.length cc, Value.bool xd, Value.slice qd xn.length cd, Value.slice qe xk.length ce] W2_0 s2 := hF2_0)
  all_goals exact key _ ⟨hF2_0, (((Kept.refl _ _).drew.trans hKa2).trans hK2_0)⟩
 rintro W2 ⟨hF2b, hK2⟩
 clear C2 cw2 HF2 hK2 cc2_0
 obtain ⟨⟨a3, s3⟩, r3⟩ : ∃ q, longP s2 xw = q := ⟨_, rfl⟩
 have g3 := grows_long s2 xw
 rw [r3] at g3
 simp only at g3
 have n3 : I64 a3 := by have := longP_in s2 xw (by assumption); rw [r3] at this; exact this
 have C3 : Hid (Calls Tryz.prog 120 #[.agg #[.iface t (.pointer (some ⟨p, 0, none⟩))], .int .i64 xw] W2.drew fun e w' => e = .returned (.int .i64 a3) ∧ Fm K noB w t p mb 7 cur [Value.string a1, Value.string a2, Value.int .i64 xw, Value.int .i64 xl, Value.int .i64 xr, Value.slice qa xh.length ca, Value.slice qb xg.length cb, Value.slice qc xi.length cc, Value.bool xd, Value.slice qd xn.length cd, Value.slice qe xk.length ce] w' s3 ∧ Kept (fun b => K b ∨ noB b) W2.drew w') := by
  refine hF2b.drew.call (R := fun e => e = .returned (.int .i64 a3)) ?_
  have := whole_any _ t p s2 xw W2.drew hF2b.drew.port (by first | assumption | omega) (by omega)
  rw [r3] at this
  exact this
 have cw3 : W2.drew.cell? ⟨w.heap.size, 0, none⟩ = _ := hF2b.drew.cell0
 have cc3_0 : W2.drew.cell? ⟨mb, 9, none⟩ = _ := hF2b.drew.cell1 (k := 9) (i := 2) rfl rfl
 have HF3 : Hid (Fm K noB w t p mb 7 cur [Value.string a1, Value.string a2, Value.int .i64 xw, Value.int .i64 xl, Value.int .i64 xr, Value.slice qa xh.length ca, Value.slice qb xg.length cb, Value.slice qc xi.length cc, Value.bool xd, Value.slice qd xn.length cd, Value.slice qe xk.length ce] W2 s2) := hF2b
 clear hF2b
 go_wp2_with fail
 refine via (A := fun WX => Fm K noB w t p mb 7 cur [Value.string a1, Value.string a2, Value.int .i64 a3, Value.int .i64 xl, Value.int .i64 xr, Value.slice qa xh.length ca, Value.slice qb xg.length cb, Value.slice qc xi.length cc, Value.bool xd, Value.slice qd xn.length cd, Value.slice qe xk.length ce] WX s3 ∧ Kept (fun b => K b ∨ noB b) W2 WX) (Q := ?Q3) (fun key => ?a3) ?b3
 case a3 =>
  go_region_with (go_at_call 120; refine C3.out.mono ?_; rintro e w3 ⟨rfl, hF3a, hKa3⟩; have x3_0 := hF3a.cell1 (k := 9) (i := 2) rfl rfl; have z3_0 := hF3a.fz1 9; obtain ⟨W3_0, hW3_0, hF3_0, hK3_0⟩ := hF3a.set1 9 2 (Value.int .i64 a3) rfl (by simp); replace hF3_0 : Fm K noB w t p mb 7 cur [Value.string a1, Value.string a2, Value.int .i64 a3, Value.int .i64 xl, Value.int .i64 xr, Value.slice qa xh.length ca, Value.slice qb xg.length cb, Value.slice qc xi.length cc, Value.bool xd, Value.slice qd xn.length cd, Value.slice qe xk.length ce] W3_0 s3 := hF3_0)
  all_goals exact key _ ⟨hF3_0, (((Kept.refl _ _).drew.trans hKa3).trans hK3_0)⟩
 rintro W3 ⟨hF3b, hK3⟩
 clear C3 cw3 HF3 hK3 cc3_0
 obtain ⟨⟨a4, s4⟩, r4⟩ : ∃ q, longP s3 xl = q := ⟨_, rfl⟩
 have g4 := grows_long s3 xl
 rw [r4] at g4
 simp only at g4
 have n4 : I64 a4 := by have := longP_in s3 xl (by assumption); rw [r4] at this; exact this
 have C4 : Hid (Calls Tryz.prog 120 #[.agg #[.iface t (.pointer (some ⟨p, 0, none⟩))], .int .i64 xl] W3.drew fun e w' => e = .returned (.int .i64 a4) ∧ Fm K noB w t p mb 7 cur [Value.string a1, Value.string a2, Value.int .i64 a3, Value.int .i64 xl, Value.int .i64 xr, Value.slice qa xh.length ca, Value.slice qb xg.length cb, Value.slice qc xi.length cc, Value.bool xd, Value.slice qd xn.length cd, Value.slice qe xk.length ce] w' s4 ∧ Kept (fun b => K b ∨ noB b) W3.drew w') := by
  refine hF3b.drew.call (R := fun e => e = .returned (.int .i64 a4)) ?_
  have := whole_any _ t p s3 xl W3.drew hF3b.drew.port (by first | assumption | omega) (by omega)
  rw [r4] at this
  exact this
 have cw4 : W3.drew.cell? ⟨w.heap.size, 0, none⟩ = _ := hF3b.drew.cell0
 have cc4_0 : W3.drew.cell? ⟨mb, 10, none⟩ = _ := hF3b.drew.cell1 (k := 10) (i := 3) rfl rfl
 have HF4 : Hid (Fm K noB w t p mb 7 cur [Value.string a1, Value.string a2, Value.int .i64 a3, Value.int .i64 xl, Value.int .i64 xr, Value.slice qa xh.length ca, Value.slice qb xg.length cb, Value.slice qc xi.length cc, Value.bool xd, Value.slice qd xn.length cd, Value.slice qe xk.length ce] W3 s3) := hF3b
 clear hF3b
 go_wp2_with fail
 refine via (A := fun WX => Fm K noB w t p mb 7 cur [Value.string a1, Value.string a2, Value.int .i64 a3, Value.int .i64 a4, Value.int .i64 xr, Value.slice qa xh.length ca, Value.slice qb xg.length cb, Value.slice qc xi.length cc, Value.bool xd, Value.slice qd xn.length cd, Value.slice qe xk.length ce] WX s4 ∧ Kept (fun b => K b ∨ noB b) W3 WX) (Q := ?Q4) (fun key => ?a4) ?b4
 case a4 =>
  go_region_with (go_at_call 120; refine C4.out.mono ?_; rintro e w4 ⟨rfl, hF4a, hKa4⟩; have x4_0 := hF4a.cell1 (k := 10) (i := 3) rfl rfl; have z4_0 := hF4a.fz1 10; obtain ⟨W4_0, hW4_0, hF4_0, hK4_0⟩ := hF4a.set1 10 3 (Value.int .i64 a4) rfl (by simp); replace hF4_0 : Fm K noB w t p mb 7 cur [Value.string a1, Value.string a2, Value.int .i64 a3, Value.int .i64 a4, Value.int .i64 xr, Value.slice qa xh.length ca, Value.slice qb xg.length cb, Value.slice qc xi.length cc, Value.bool xd, Value.slice qd xn.length cd, Value.slice qe xk.length ce] W4_0 s4 := hF4_0)
  all_goals exact key _ ⟨hF4_0, (((Kept.refl _ _).drew.trans hKa4).trans hK4_0)⟩
 rintro W4 ⟨hF4b, hK4⟩
 clear C4 cw4 HF4 hK4 cc4_0
 obtain ⟨⟨a5, s5⟩, r5⟩ : ∃ q, longP s4 xr = q := ⟨_, rfl⟩
 have g5 := grows_long s4 xr
 rw [r5] at g5
 simp only at g5
 have n5 : I64 a5 := by have := longP_in s4 xr (by assumption); rw [r5] at this; exact this
 have C5 : Hid (Calls Tryz.prog 120 #[.agg #[.iface t (.pointer (some ⟨p, 0, none⟩))], .int .i64 xr] W4.drew fun e w' => e = .returned (.int .i64 a5) ∧ Fm K noB w t p mb 7 cur [Value.string a1, Value.string a2, Value.int .i64 a3, Value.int .i64 a4, Value.int .i64 xr, Value.slice qa xh.length ca, Value.slice qb xg.length cb, Value.slice qc xi.length cc, Value.bool xd, Value.slice qd xn.length cd, Value.slice qe xk.length ce] w' s5 ∧ Kept (fun b => K b ∨ noB b) W4.drew w') := by
  refine hF4b.drew.call (R := fun e => e = .returned (.int .i64 a5)) ?_
  have := whole_any _ t p s4 xr W4.drew hF4b.drew.port (by first | assumption | omega) (by omega)
  rw [r5] at this
  exact this
 have cw5 : W4.drew.cell? ⟨w.heap.size, 0, none⟩ = _ := hF4b.drew.cell0
 have cc5_0 : W4.drew.cell? ⟨mb, 11, none⟩ = _ := hF4b.drew.cell1 (k := 11) (i := 4) rfl rfl
 have HF5 : Hid (Fm K noB w t p mb 7 cur [Value.string a1, Value.string a2, Value.int .i64 a3, Value.int .i64 a4, Value.int .i64 xr, Value.slice qa xh.length ca, Value.slice qb xg.length cb, Value.slice qc xi.length cc, Value.bool xd, Value.slice qd xn.length cd, Value.slice qe xk.length ce] W4 s4) := hF4b
 clear hF4b
 go_wp2_with fail
 refine via (A := fun WX => Fm K noB w t p mb 7 cur [Value.string a1, Value.string a2, Value.int .i64 a3, Value.int .i64 a4, Value.int .i64 a5, Value.slice qa xh.length ca, Value.slice qb xg.length cb, Value.slice qc xi.length cc, Value.bool xd, Value.slice qd xn.length cd, Value.slice qe xk.length ce] WX s5 ∧ Kept (fun b => K b ∨ noB b) W4 WX) (Q := ?Q5) (fun key => ?a5) ?b5
 case a5 =>
  go_region_with (go_at_call 120; refine C5.out.mono ?_; rintro e w5 ⟨rfl, hF5a, hKa5⟩; have x5_0 := hF5a.cell1 (k := 11) (i := 4) rfl rfl; have z5_0 := hF5a.fz1 11; obtain ⟨W5_0, hW5_0, hF5_0, hK5_0⟩ := hF5a.set1 11 4 (Value.int .i64 a5) rfl (by simp); replace hF5_0 : Fm K noB w t p mb 7 cur [Value.string a1, Value.string a2, Value.int .i64 a3, Value.int .i64 a4, Value.int .i64 a5, Value.slice qa xh.length ca, Value.slice qb xg.length cb, Value.slice qc xi.length cc, Value.bool xd, Value.slice qd xn.length cd, Value.slice qe xk.length ce] W5_0 s5 := hF5_0)
  all_goals exact key _ ⟨hF5_0, (((Kept.refl _ _).drew.trans hKa5).trans hK5_0)⟩
 rintro W5 ⟨hF5b, hK5⟩
 clear C5 cw5 HF5 hK5 cc5_0
 obtain ⟨⟨a6, s6⟩, r6⟩ : ∃ q, stpsP s5 xh = q := ⟨_, rfl⟩
 have g6 := grows_stps s5 xh
 rw [r6] at g6
 simp only at g6
 have hli6 : ListIs rStp 3 32 D W5.drew (Value.slice qa xh.length ca) xh := hva.mono mStp (fun _ h => h) (hF5b.drew.kept.less hDK)
 have C6 : Hid (Calls Tryz.prog 121 #[.agg #[.iface t (.pointer (some ⟨p, 0, none⟩))], Value.slice qa xh.length ca] W5.drew fun e w' => ∃ N6 : Nat → Prop, (∃ q c, e = .returned (.slice q a6.length c) ∧ ListIs rStp 3 32 (fun b => D b ∨ N6 b) w' (.slice q a6.length c) a6) ∧ Fm K (fun b => noB b ∨ N6 b) w t p mb 7 cur [Value.string a1, Value.string a2, Value.int .i64 a3, Value.int .i64 a4, Value.int .i64 a5, Value.slice qa xh.length ca, Value.slice qb xg.length cb, Value.slice qc xi.length cc, Value.bool xd, Value.slice qd xn.length cd, Value.slice qe xk.length ce] w' s6 ∧ Kept (fun b => K b ∨ noB b) W5.drew w') := by
  refine hF5b.drew.callN (R := fun N e w' => ∃ q c, e = .returned (.slice q a6.length c) ∧ ListIs rStp 3 32 (fun b => D b ∨ N b) w' (.slice q a6.length c) a6) ?_
  have := steps_any t p _ D W5.drew s5 (Value.slice qa xh.length ca) xh (htb.mono (fun b hb => Or.inl hb) hF5b.drew.kept) hF5b.drew.port (fun b hb => .inl (hDK b hb)) hli6 (by omega)
  refine this.mono ?_
  rintro e w' ⟨N, v', rfl, h1, h2, h3, h4⟩
  replace h2 : PortIs _ w' t p (stpsP s5 xh).2 := h2
  replace h3 : ListIs rStp 3 32 (fun b => D b ∨ N b) w' v' (stpsP s5 xh).1 := h3
  rw [r6] at h2 h3
  obtain ⟨q, c, rfl, h5⟩ := h3
  exact ⟨N, ⟨q, c, rfl, q, c, rfl, h5⟩, h1, h2, h4⟩
 have cw6 : W5.drew.cell? ⟨w.heap.size, 0, none⟩ = _ := hF5b.drew.cell0
 have cc6_0 : W5.drew.cell? ⟨mb, 12, none⟩ = _ := hF5b.drew.cell1 (k := 12) (i := 5) rfl rfl
 have HF6 : Hid (Fm K noB w t p mb 7 cur [Value.string a1, Value.string a2, Value.int .i64 a3, Value.int .i64 a4, Value.int .i64 a5, Value.slice qa xh.length ca, Value.slice qb xg.length cb, Value.slice qc xi.length cc, Value.bool xd, Value.slice qd xn.length cd, Value.slice qe xk.length ce] W5 s5) := hF5b
 clear hF5b
 go_wp2_with fail
 refine viaN (A := fun N6 q c WX => (Fm K (fun b => noB b ∨ N6 b) w t p mb 7 cur [Value.string a1, Value.string a2, Value.int .i64 a3, Value.int .i64 a4, Value.int .i64 a5, Value.slice q a6.length c, Value.slice qb xg.length cb, Value.slice qc xi.length cc, Value.bool xd, Value.slice qd xn.length cd, Value.slice qe xk.length ce] WX s6 ∧ Kept (fun b => K b ∨ noB b) W5 WX) ∧ ListIs rStp 3 32 (fun b => D b ∨ N6 b) WX (.slice q a6.length c) a6) (Q := ?Q6) (fun key => ?a6) ?b6
 case a6 =>
  go_region_with (go_at_call 121; refine C6.out.mono ?_; rintro e w6 ⟨N6, ⟨q6, c6, rfl, hd6⟩, hF6a, hKa6⟩; have x6_0 := hF6a.cell1 (k := 12) (i := 5) rfl rfl; have z6_0 := hF6a.fz1 12; obtain ⟨W6_0, hW6_0, hF6_0, hK6_0⟩ := hF6a.set1 12 5 (Value.slice q6 a6.length c6) rfl (by simp); replace hF6_0 : Fm K (fun b => noB b ∨ N6 b) w t p mb 7 cur [Value.string a1, Value.string a2, Value.int .i64 a3, Value.int .i64 a4, Value.int .i64 a5, Value.slice q6 a6.length c6, Value.slice qb xg.length cb, Value.slice qc xi.length cc, Value.bool xd, Value.slice qd xn.length cd, Value.slice qe xk.length ce] W6_0 s6 := hF6_0)
  all_goals exact key N6 q6 c6 _ ⟨⟨hF6_0, (((Kept.refl _ _).drew.trans hKa6).trans (hK6_0.less (fun b hb => hb.elim Or.inl (fun h => Or.inr (Or.inl h)))))⟩, (ListIs.mono mStp (fun _ h => h) (hK6_0.less (fun b hb => hb.elim (fun h => Or.inl (hDK b h)) (fun h => Or.inr (Or.inr h)))) hd6)⟩
 rintro N6 q6 c6 W6 ⟨⟨hF6b, hK6⟩, hd6⟩
 clear C6 cw6 HF6 hK6 cc6_0
 obtain ⟨⟨a7, s7⟩, r7⟩ : ∃ q, intsP s6 xg = q := ⟨_, rfl⟩
 have g7 := grows_ints s6 xg
 rw [r7] at g7
 simp only at g7
 have hli7 : ListIs rInt 1 8 D W6.drew (Value.slice qb xg.length cb) xg := hvb.mono mInt (fun _ h => h) (hF6b.drew.kept.less hDK)
 have C7 : Hid (Calls Tryz.prog 122 #[.agg #[.iface t (.pointer (some ⟨p, 0, none⟩))], Value.slice qb xg.length cb] W6.drew fun e w' => ∃ N7 : Nat → Prop, (∃ q c, e = .returned (.slice q a7.length c) ∧ ListIs rInt 1 8 (fun b => D b ∨ N7 b) w' (.slice q a7.length c) a7) ∧ Fm K (fun b => (fun b => noB b ∨ N6 b) b ∨ N7 b) w t p mb 7 cur [Value.string a1, Value.string a2, Value.int .i64 a3, Value.int .i64 a4, Value.int .i64 a5, Value.slice q6 a6.length c6, Value.slice qb xg.length cb, Value.slice qc xi.length cc, Value.bool xd, Value.slice qd xn.length cd, Value.slice qe xk.length ce] w' s7 ∧ Kept (fun b => K b ∨ (fun b => noB b ∨ N6 b) b) W6.drew w') := by
  refine hF6b.drew.callN (R := fun N e w' => ∃ q c, e = .returned (.slice q a7.length c) ∧ ListIs rInt 1 8 (fun b => D b ∨ N b) w' (.slice q a7.length c) a7) ?_
  have := wholes_any t p _ D W6.drew s6 (Value.slice qb xg.length cb) xg (htb.mono (fun b hb => Or.inl hb) hF6b.drew.kept) hF6b.drew.port (fun b hb => .inl (hDK b hb)) hli7 (by omega)
  refine this.mono ?_
  rintro e w' ⟨N, v', rfl, h1, h2, h3, h4⟩
  replace h2 : PortIs _ w' t p (intsP s6 xg).2 := h2
  replace h3 : ListIs rInt 1 8 (fun b => D b ∨ N b) w' v' (intsP s6 xg).1 := h3
  rw [r7] at h2 h3
  obtain ⟨q, c, rfl, h5⟩ := h3
  exact ⟨N, ⟨q, c, rfl, q, c, rfl, h5⟩, h1, h2, h4⟩
 have cw7 : W6.drew.cell? ⟨w.heap.size, 0, none⟩ = _ := hF6b.drew.cell0
 have cc7_0 : W6.drew.cell? ⟨mb, 13, none⟩ = _ := hF6b.drew.cell1 (k := 13) (i := 6) rfl rfl
 have HF7 : Hid (Fm K (fun b => noB b ∨ N6 b) w t p mb 7 cur [Value.string a1, Value.string a2, Value.int .i64 a3, Value.int .i64 a4, Value.int .i64 a5, Value.slice q6 a6.length c6, Value.slice qb xg.length cb, Value.slice qc xi.length cc, Value.bool xd, Value.slice qd xn.length cd, Value.slice qe xk.length ce] W6 s6) := hF6b
 clear hF6b
 go_wp2_with fail
 refine viaN (A := fun N7 q c WX => (Fm K (fun b => (fun b => noB b ∨ N6 b) b ∨ N7 b) w t p mb 7 cur [Value.string a1, Value.string a2, Value.int .i64 a3, Value.int .i64 a4, Value.int .i64 a5, Value.slice q6 a6.length c6, Value.slice q a7.length c, Value.slice qc xi.length cc, Value.bool xd, Value.slice qd xn.length cd, Value.slice qe xk.length ce] WX s7 ∧ Kept (fun b => K b ∨ (fun b => noB b ∨ N6 b) b) W6 WX) ∧ ListIs rInt 1 8 (fun b => D b ∨ N7 b) WX (.slice q a7.length c) a7) (Q := ?Q7) (fun key => ?a7) ?b7
 case a7 =>
  go_region_with (go_at_call 122; refine C7.out.mono ?_; rintro e w7 ⟨N7, ⟨q7, c7, rfl, hd7⟩, hF7a, hKa7⟩; have x7_0 := hF7a.cell1 (k := 13) (i := 6) rfl rfl; have z7_0 := hF7a.fz1 13; obtain ⟨W7_0, hW7_0, hF7_0, hK7_0⟩ := hF7a.set1 13 6 (Value.slice q7 a7.length c7) rfl (by simp); replace hF7_0 : Fm K (fun b => (fun b => noB b ∨ N6 b) b ∨ N7 b) w t p mb 7 cur [Value.string a1, Value.string a2, Value.int .i64 a3, Value.int .i64 a4, Value.int .i64 a5, Value.slice q6 a6.length c6, Value.slice q7 a7.length c7, Value.slice qc xi.length cc, Value.bool xd, Value.slice qd xn.length cd, Value.slice qe xk.length ce] W7_0 s7 := hF7_0)
  all_goals exact key N7 q7 c7 _ ⟨⟨hF7_0, (((Kept.refl _ _).drew.trans hKa7).trans (hK7_0.less (fun b hb => hb.elim Or.inl (fun h => Or.inr (Or.inl h)))))⟩, (ListIs.mono mInt (fun _ h => h) (hK7_0.less (fun b hb => hb.elim (fun h => Or.inl (hDK b h)) (fun h => Or.inr (Or.inr h)))) hd7)⟩
 rintro N7 q7 c7 W7 ⟨⟨hF7b, hK7⟩, hd7⟩
 replace hd6 : ListIs rStp 3 32 (fun b => D b ∨ N6 b) W7 (.slice q6 a6.length c6) a6 := ListIs.mono mStp (fun _ h => h) (hK7.less (fun b hb => hb.elim (fun h => Or.inl (hDK b h)) (fun h => Or.inr (Or.inr h)))) hd6
 clear C7 cw7 HF7 hK7 cc7_0
 obtain ⟨⟨a8, s8⟩, r8⟩ : ∃ q, listP 64 itmP itm0 s7 xi = q := ⟨_, rfl⟩
 have g8 := (grows_list 64 itm0 grows_itm) s7 xi
 rw [r8] at g8
 simp only at g8
 have hli8 : ListIs rItm 2 32 D W7.drew (Value.slice qc xi.length cc) xi := hvc.mono mItm (fun _ h => h) (hF7b.drew.kept.less hDK)
 have C8 : Hid (Calls Tryz.prog 123 #[.agg #[.iface t (.pointer (some ⟨p, 0, none⟩))], Value.slice qc xi.length cc, .int .u64 64, .func (.func 124) #[.agg #[.iface t (.pointer (some ⟨p, 0, none⟩))]] #[]] W7.drew fun e w' => ∃ N8 : Nat → Prop, (∃ q c, e = .returned (.slice q a8.length c) ∧ ListIs rItm 2 32 (fun b => D b ∨ N8 b) w' (.slice q a8.length c) a8) ∧ Fm K (fun b => (fun b => (fun b => noB b ∨ N6 b) b ∨ N7 b) b ∨ N8 b) w t p mb 7 cur [Value.string a1, Value.string a2, Value.int .i64 a3, Value.int .i64 a4, Value.int .i64 a5, Value.slice q6 a6.length c6, Value.slice q7 a7.length c7, Value.slice qc xi.length cc, Value.bool xd, Value.slice qd xn.length cd, Value.slice qe xk.length ce] w' s8 ∧ Kept (fun b => K b ∨ (fun b => (fun b => noB b ∨ N6 b) b ∨ N7 b) b) W7.drew w') := by
  refine hF7b.drew.callN (R := fun N e w' => ∃ q c, e = .returned (.slice q a8.length c) ∧ ListIs rItm 2 32 (fun b => D b ∨ N b) w' (.slice q a8.length c) a8) ?_
  have := itm35 t p _ D W7.drew s7 (Value.slice qc xi.length cc) xi (htb.mono (fun b hb => Or.inl hb) hF7b.drew.kept) hF7b.drew.port (fun b hb => .inl (hDK b hb)) hli8 (by omega)
  refine this.mono ?_
  rintro e w' ⟨N, v', rfl, h1, h2, h3, h4⟩
  replace h2 : PortIs _ w' t p (listP 64 itmP itm0 s7 xi).2 := h2
  replace h3 : ListIs rItm 2 32 (fun b => D b ∨ N b) w' v' (listP 64 itmP itm0 s7 xi).1 := h3
  rw [r8] at h2 h3
  obtain ⟨q, c, rfl, h5⟩ := h3
  exact ⟨N, ⟨q, c, rfl, q, c, rfl, h5⟩, h1, h2, h4⟩
 have cw8 : W7.drew.cell? ⟨w.heap.size, 0, none⟩ = _ := hF7b.drew.cell0
 have cc8_0 : W7.drew.cell? ⟨mb, 14, none⟩ = _ := hF7b.drew.cell1 (k := 14) (i := 7) rfl rfl
 have HF8 : Hid (Fm K (fun b => (fun b => noB b ∨ N6 b) b ∨ N7 b) w t p mb 7 cur [Value.string a1, Value.string a2, Value.int .i64 a3, Value.int .i64 a4, Value.int .i64 a5, Value.slice q6 a6.length c6, Value.slice q7 a7.length c7, Value.slice qc xi.length cc, Value.bool xd, Value.slice qd xn.length cd, Value.slice qe xk.length ce] W7 s7) := hF7b
 clear hF7b
 go_wp2_with fail
 refine viaN (A := fun N8 q c WX => (Fm K (fun b => (fun b => (fun b => noB b ∨ N6 b) b ∨ N7 b) b ∨ N8 b) w t p mb 7 cur [Value.string a1, Value.string a2, Value.int .i64 a3, Value.int .i64 a4, Value.int .i64 a5, Value.slice q6 a6.length c6, Value.slice q7 a7.length c7, Value.slice q a8.length c, Value.bool xd, Value.slice qd xn.length cd, Value.slice qe xk.length ce] WX s8 ∧ Kept (fun b => K b ∨ (fun b => (fun b => noB b ∨ N6 b) b ∨ N7 b) b) W7 WX) ∧ ListIs rItm 2 32 (fun b => D b ∨ N8 b) WX (.slice q a8.length c) a8) (Q := ?Q8) (fun key => ?a8) ?b8
 case a8 =>
  go_region_with (go_at_call 123; refine C8.out.mono ?_; rintro e w8 ⟨N8, ⟨q8, c8, rfl, hd8⟩, hF8a, hKa8⟩; have x8_0 := hF8a.cell1 (k := 14) (i := 7) rfl rfl; have z8_0 := hF8a.fz1 14; obtain ⟨W8_0, hW8_0, hF8_0, hK8_0⟩ := hF8a.set1 14 7 (Value.slice q8 a8.length c8) rfl (by simp); replace hF8_0 : Fm K (fun b => (fun b => (fun b => noB b ∨ N6 b) b ∨ N7 b) b ∨ N8 b) w t p mb 7 cur [Value.string a1, Value.string a2, Value.int .i64 a3, Value.int .i64 a4, Value.int .i64 a5, Value.slice q6 a6.length c6, Value.slice q7 a7.length c7, Value.slice q8 a8.length c8, Value.bool xd, Value.slice qd xn.length cd, Value.slice qe xk.length ce] W8_0 s8 := hF8_0)
  all_goals exact key N8 q8 c8 _ ⟨⟨hF8_0, (((Kept.refl _ _).drew.trans hKa8).trans (hK8_0.less (fun b hb => hb.elim Or.inl (fun h => Or.inr (Or.inl h)))))⟩, (ListIs.mono mItm (fun _ h => h) (hK8_0.less (fun b hb => hb.elim (fun h => Or.inl (hDK b h)) (fun h => Or.inr (Or.inr h)))) hd8)⟩
 rintro N8 q8 c8 W8 ⟨⟨hF8b, hK8⟩, hd8⟩
 replace hd6 : ListIs rStp 3 32 (fun b => D b ∨ N6 b) W8 (.slice q6 a6.length c6) a6 := ListIs.mono mStp (fun _ h => h) (hK8.less (fun b hb => hb.elim (fun h => Or.inl (hDK b h)) (fun h => Or.inr (Or.inl (Or.inr h))))) hd6
 replace hd7 : ListIs rInt 1 8 (fun b => D b ∨ N7 b) W8 (.slice q7 a7.length c7) a7 := ListIs.mono mInt (fun _ h => h) (hK8.less (fun b hb => hb.elim (fun h => Or.inl (hDK b h)) (fun h => Or.inr (Or.inr h)))) hd7
 clear C8 cw8 HF8 hK8 cc8_0
 obtain ⟨⟨a9, s9⟩, r9⟩ : ∃ q, flagP s8 xd = q := ⟨_, rfl⟩
 have g9 := grows_flag s8 xd
 rw [r9] at g9
 simp only at g9
 have C9 : Hid (Calls Tryz.prog 125 #[.agg #[.iface t (.pointer (some ⟨p, 0, none⟩))], .bool xd] W8.drew fun e w' => e = .returned (.bool a9) ∧ Fm K (fun b => (fun b => (fun b => noB b ∨ N6 b) b ∨ N7 b) b ∨ N8 b) w t p mb 7 cur [Value.string a1, Value.string a2, Value.int .i64 a3, Value.int .i64 a4, Value.int .i64 a5, Value.slice q6 a6.length c6, Value.slice q7 a7.length c7, Value.slice q8 a8.length c8, Value.bool xd, Value.slice qd xn.length cd, Value.slice qe xk.length ce] w' s9 ∧ Kept (fun b => K b ∨ (fun b => (fun b => (fun b => noB b ∨ N6 b) b ∨ N7 b) b ∨ N8 b) b) W8.drew w') := by
  refine hF8b.drew.call (R := fun e => e = .returned (.bool a9)) ?_
  have := flag_any _ t p s8 xd W8.drew hF8b.drew.port (by omega)
  rw [r9] at this
  exact this
 have cw9 : W8.drew.cell? ⟨w.heap.size, 0, none⟩ = _ := hF8b.drew.cell0
 have cc9_0 : W8.drew.cell? ⟨mb, 15, none⟩ = _ := hF8b.drew.cell1 (k := 15) (i := 8) rfl rfl
 have HF9 : Hid (Fm K (fun b => (fun b => (fun b => noB b ∨ N6 b) b ∨ N7 b) b ∨ N8 b) w t p mb 7 cur [Value.string a1, Value.string a2, Value.int .i64 a3, Value.int .i64 a4, Value.int .i64 a5, Value.slice q6 a6.length c6, Value.slice q7 a7.length c7, Value.slice q8 a8.length c8, Value.bool xd, Value.slice qd xn.length cd, Value.slice qe xk.length ce] W8 s8) := hF8b
 clear hF8b
 go_wp2_with fail
 refine via (A := fun WX => Fm K (fun b => (fun b => (fun b => noB b ∨ N6 b) b ∨ N7 b) b ∨ N8 b) w t p mb 7 cur [Value.string a1, Value.string a2, Value.int .i64 a3, Value.int .i64 a4, Value.int .i64 a5, Value.slice q6 a6.length c6, Value.slice q7 a7.length c7, Value.slice q8 a8.length c8, Value.bool a9, Value.slice qd xn.length cd, Value.slice qe xk.length ce] WX s9 ∧ Kept (fun b => K b ∨ (fun b => (fun b => (fun b => noB b ∨ N6 b) b ∨ N7 b) b ∨ N8 b) b) W8 WX) (Q := ?Q9) (fun key => ?a9) ?b9
 case a9 =>
  go_region_with (go_at_call 125; refine C9.out.mono ?_; rintro e w9 ⟨rfl, hF9a, hKa9⟩; have x9_0 := hF9a.cell1 (k := 15) (i := 8) rfl rfl; have z9_0 := hF9a.fz1 15; obtain ⟨W9_0, hW9_0, hF9_0, hK9_0⟩ := hF9a.set1 15 8 (Value.bool a9) rfl (by simp); replace hF9_0 : Fm K (fun b => (fun b => (fun b => noB b ∨ N6 b) b ∨ N7 b) b ∨ N8 b) w t p mb 7 cur [Value.string a1, Value.string a2, Value.int .i64 a3, Value.int .i64 a4, Value.int .i64 a5, Value.slice q6 a6.length c6, Value.slice q7 a7.length c7, Value.slice q8 a8.length c8, Value.bool a9, Value.slice qd xn.length cd, Value.slice qe xk.length ce] W9_0 s9 := hF9_0)
  all_goals exact key _ ⟨hF9_0, (((Kept.refl _ _).drew.trans hKa9).trans hK9_0)⟩
 rintro W9 ⟨hF9b, hK9⟩
 replace hd6 : ListIs rStp 3 32 (fun b => D b ∨ N6 b) W9 (.slice q6 a6.length c6) a6 := ListIs.mono mStp (fun _ h => h) (hK9.less (fun b hb => hb.elim (fun h => Or.inl (hDK b h)) (fun h => Or.inr (Or.inl (Or.inl (Or.inr h)))))) hd6
 replace hd7 : ListIs rInt 1 8 (fun b => D b ∨ N7 b) W9 (.slice q7 a7.length c7) a7 := ListIs.mono mInt (fun _ h => h) (hK9.less (fun b hb => hb.elim (fun h => Or.inl (hDK b h)) (fun h => Or.inr (Or.inl (Or.inr h))))) hd7
 replace hd8 : ListIs rItm 2 32 (fun b => D b ∨ N8 b) W9 (.slice q8 a8.length c8) a8 := ListIs.mono mItm (fun _ h => h) (hK9.less (fun b hb => hb.elim (fun h => Or.inl (hDK b h)) (fun h => Or.inr (Or.inr h)))) hd8
 clear C9 cw9 HF9 hK9 cc9_0
 obtain ⟨⟨a10, s10⟩, r10⟩ : ∃ q, listP 64 txtP s0 s9 xn = q := ⟨_, rfl⟩
 have g10 := (grows_list 64 s0 grows_txt) s9 xn
 rw [r10] at g10
 simp only at g10
 have hli10 : ListIs rTxt 1 16 D W9.drew (Value.slice qd xn.length cd) xn := hvd.mono mTxt (fun _ h => h) (hF9b.drew.kept.less hDK)
 have C10 : Hid (Calls Tryz.prog 126 #[.agg #[.iface t (.pointer (some ⟨p, 0, none⟩))], Value.slice qd xn.length cd, .int .u64 64, .func (.method "potsherd/wire.text") #[.iface t (.pointer (some ⟨p, 0, none⟩))] #[]] W9.drew fun e w' => ∃ N10 : Nat → Prop, (∃ q c, e = .returned (.slice q a10.length c) ∧ ListIs rTxt 1 16 (fun b => D b ∨ N10 b) w' (.slice q a10.length c) a10) ∧ Fm K (fun b => (fun b => (fun b => (fun b => noB b ∨ N6 b) b ∨ N7 b) b ∨ N8 b) b ∨ N10 b) w t p mb 7 cur [Value.string a1, Value.string a2, Value.int .i64 a3, Value.int .i64 a4, Value.int .i64 a5, Value.slice q6 a6.length c6, Value.slice q7 a7.length c7, Value.slice q8 a8.length c8, Value.bool a9, Value.slice qd xn.length cd, Value.slice qe xk.length ce] w' s10 ∧ Kept (fun b => K b ∨ (fun b => (fun b => (fun b => noB b ∨ N6 b) b ∨ N7 b) b ∨ N8 b) b) W9.drew w') := by
  refine hF9b.drew.callN (R := fun N e w' => ∃ q c, e = .returned (.slice q a10.length c) ∧ ListIs rTxt 1 16 (fun b => D b ∨ N b) w' (.slice q a10.length c) a10) ?_
  have := nam38 t p _ D W9.drew s9 (Value.slice qd xn.length cd) xn (htb.mono (fun b hb => Or.inl hb) hF9b.drew.kept) hF9b.drew.port (fun b hb => .inl (hDK b hb)) hli10 (by omega)
  refine this.mono ?_
  rintro e w' ⟨N, v', rfl, h1, h2, h3, h4⟩
  replace h2 : PortIs _ w' t p (listP 64 txtP s0 s9 xn).2 := h2
  replace h3 : ListIs rTxt 1 16 (fun b => D b ∨ N b) w' v' (listP 64 txtP s0 s9 xn).1 := h3
  rw [r10] at h2 h3
  obtain ⟨q, c, rfl, h5⟩ := h3
  exact ⟨N, ⟨q, c, rfl, q, c, rfl, h5⟩, h1, h2, h4⟩
 have cw10 : W9.drew.cell? ⟨w.heap.size, 0, none⟩ = _ := hF9b.drew.cell0
 have cc10_0 : W9.drew.cell? ⟨mb, 16, none⟩ = _ := hF9b.drew.cell1 (k := 16) (i := 9) rfl rfl
 have HF10 : Hid (Fm K (fun b => (fun b => (fun b => noB b ∨ N6 b) b ∨ N7 b) b ∨ N8 b) w t p mb 7 cur [Value.string a1, Value.string a2, Value.int .i64 a3, Value.int .i64 a4, Value.int .i64 a5, Value.slice q6 a6.length c6, Value.slice q7 a7.length c7, Value.slice q8 a8.length c8, Value.bool a9, Value.slice qd xn.length cd, Value.slice qe xk.length ce] W9 s9) := hF9b
 clear hF9b
 go_wp2_with fail
 refine viaN (A := fun N10 q c WX => (Fm K (fun b => (fun b => (fun b => (fun b => noB b ∨ N6 b) b ∨ N7 b) b ∨ N8 b) b ∨ N10 b) w t p mb 7 cur [Value.string a1, Value.string a2, Value.int .i64 a3, Value.int .i64 a4, Value.int .i64 a5, Value.slice q6 a6.length c6, Value.slice q7 a7.length c7, Value.slice q8 a8.length c8, Value.bool a9, Value.slice q a10.length c, Value.slice qe xk.length ce] WX s10 ∧ Kept (fun b => K b ∨ (fun b => (fun b => (fun b => noB b ∨ N6 b) b ∨ N7 b) b ∨ N8 b) b) W9 WX) ∧ ListIs rTxt 1 16 (fun b => D b ∨ N10 b) WX (.slice q a10.length c) a10) (Q := ?Q10) (fun key => ?a10) ?b10
 case a10 =>
  go_region_with (go_at_call 126; refine C10.out.mono ?_; rintro e w10 ⟨N10, ⟨q10, c10, rfl, hd10⟩, hF10a, hKa10⟩; have x10_0 := hF10a.cell1 (k := 16) (i := 9) rfl rfl; have z10_0 := hF10a.fz1 16; obtain ⟨W10_0, hW10_0, hF10_0, hK10_0⟩ := hF10a.set1 16 9 (Value.slice q10 a10.length c10) rfl (by simp); replace hF10_0 : Fm K (fun b => (fun b => (fun b => (fun b => noB b ∨ N6 b) b ∨ N7 b) b ∨ N8 b) b ∨ N10 b) w t p mb 7 cur [Value.string a1, Value.string a2, Value.int .i64 a3, Value.int .i64 a4, Value.int .i64 a5, Value.slice q6 a6.length c6, Value.slice q7 a7.length c7, Value.slice q8 a8.length c8, Value.bool a9, Value.slice q10 a10.length c10, Value.slice qe xk.length ce] W10_0 s10 := hF10_0)
  all_goals exact key N10 q10 c10 _ ⟨⟨hF10_0, (((Kept.refl _ _).drew.trans hKa10).trans (hK10_0.less (fun b hb => hb.elim Or.inl (fun h => Or.inr (Or.inl h)))))⟩, (ListIs.mono mTxt (fun _ h => h) (hK10_0.less (fun b hb => hb.elim (fun h => Or.inl (hDK b h)) (fun h => Or.inr (Or.inr h)))) hd10)⟩
 rintro N10 q10 c10 W10 ⟨⟨hF10b, hK10⟩, hd10⟩
 replace hd6 : ListIs rStp 3 32 (fun b => D b ∨ N6 b) W10 (.slice q6 a6.length c6) a6 := ListIs.mono mStp (fun _ h => h) (hK10.less (fun b hb => hb.elim (fun h => Or.inl (hDK b h)) (fun h => Or.inr (Or.inl (Or.inl (Or.inr h)))))) hd6
 replace hd7 : ListIs rInt 1 8 (fun b => D b ∨ N7 b) W10 (.slice q7 a7.length c7) a7 := ListIs.mono mInt (fun _ h => h) (hK10.less (fun b hb => hb.elim (fun h => Or.inl (hDK b h)) (fun h => Or.inr (Or.inl (Or.inr h))))) hd7
 replace hd8 : ListIs rItm 2 32 (fun b => D b ∨ N8 b) W10 (.slice q8 a8.length c8) a8 := ListIs.mono mItm (fun _ h => h) (hK10.less (fun b hb => hb.elim (fun h => Or.inl (hDK b h)) (fun h => Or.inr (Or.inr h)))) hd8
 clear C10 cw10 HF10 hK10 cc10_0
 obtain ⟨⟨a11, s11⟩, r11⟩ : ∃ q, listP 64 octP 0 s10 xk = q := ⟨_, rfl⟩
 have g11 := (grows_list 64 0 grows_oct) s10 xk
 rw [r11] at g11
 simp only at g11
 have hli11 : ListIs rKnd 1 1 D W10.drew (Value.slice qe xk.length ce) xk := hve.mono mKnd (fun _ h => h) (hF10b.drew.kept.less hDK)
 have C11 : Hid (Calls Tryz.prog 127 #[.agg #[.iface t (.pointer (some ⟨p, 0, none⟩))], Value.slice qe xk.length ce, .int .u64 64, .func (.func 128) #[.agg #[.iface t (.pointer (some ⟨p, 0, none⟩))]] #[]] W10.drew fun e w' => ∃ N11 : Nat → Prop, (∃ q c, e = .returned (.slice q a11.length c) ∧ ListIs rKnd 1 1 (fun b => D b ∨ N11 b) w' (.slice q a11.length c) a11) ∧ Fm K (fun b => (fun b => (fun b => (fun b => (fun b => noB b ∨ N6 b) b ∨ N7 b) b ∨ N8 b) b ∨ N10 b) b ∨ N11 b) w t p mb 7 cur [Value.string a1, Value.string a2, Value.int .i64 a3, Value.int .i64 a4, Value.int .i64 a5, Value.slice q6 a6.length c6, Value.slice q7 a7.length c7, Value.slice q8 a8.length c8, Value.bool a9, Value.slice q10 a10.length c10, Value.slice qe xk.length ce] w' s11 ∧ Kept (fun b => K b ∨ (fun b => (fun b => (fun b => (fun b => noB b ∨ N6 b) b ∨ N7 b) b ∨ N8 b) b ∨ N10 b) b) W10.drew w') := by
  refine hF10b.drew.callN (R := fun N e w' => ∃ q c, e = .returned (.slice q a11.length c) ∧ ListIs rKnd 1 1 (fun b => D b ∨ N b) w' (.slice q a11.length c) a11) ?_
  have := knd39 t p _ D W10.drew s10 (Value.slice qe xk.length ce) xk (htb.mono (fun b hb => Or.inl hb) hF10b.drew.kept) hF10b.drew.port (fun b hb => .inl (hDK b hb)) hli11 (by omega)
  refine this.mono ?_
  rintro e w' ⟨N, v', rfl, h1, h2, h3, h4⟩
  replace h2 : PortIs _ w' t p (listP 64 octP 0 s10 xk).2 := h2
  replace h3 : ListIs rKnd 1 1 (fun b => D b ∨ N b) w' v' (listP 64 octP 0 s10 xk).1 := h3
  rw [r11] at h2 h3
  obtain ⟨q, c, rfl, h5⟩ := h3
  exact ⟨N, ⟨q, c, rfl, q, c, rfl, h5⟩, h1, h2, h4⟩
 have cw11 : W10.drew.cell? ⟨w.heap.size, 0, none⟩ = _ := hF10b.drew.cell0
 have cc11_0 : W10.drew.cell? ⟨mb, 17, none⟩ = _ := hF10b.drew.cell1 (k := 17) (i := 10) rfl rfl
 have HF11 : Hid (Fm K (fun b => (fun b => (fun b => (fun b => noB b ∨ N6 b) b ∨ N7 b) b ∨ N8 b) b ∨ N10 b) w t p mb 7 cur [Value.string a1, Value.string a2, Value.int .i64 a3, Value.int .i64 a4, Value.int .i64 a5, Value.slice q6 a6.length c6, Value.slice q7 a7.length c7, Value.slice q8 a8.length c8, Value.bool a9, Value.slice q10 a10.length c10, Value.slice qe xk.length ce] W10 s10) := hF10b
 clear hF10b
 go_wp2_with fail
 refine viaN (A := fun N11 q c WX => (Fm K (fun b => (fun b => (fun b => (fun b => (fun b => noB b ∨ N6 b) b ∨ N7 b) b ∨ N8 b) b ∨ N10 b) b ∨ N11 b) w t p mb 7 cur [Value.string a1, Value.string a2, Value.int .i64 a3, Value.int .i64 a4, Value.int .i64 a5, Value.slice q6 a6.length c6, Value.slice q7 a7.length c7, Value.slice q8 a8.length c8, Value.bool a9, Value.slice q10 a10.length c10, Value.slice q a11.length c] WX s11 ∧ Kept (fun b => K b ∨ (fun b => (fun b => (fun b => (fun b => noB b ∨ N6 b) b ∨ N7 b) b ∨ N8 b) b ∨ N10 b) b) W10 WX) ∧ ListIs rKnd 1 1 (fun b => D b ∨ N11 b) WX (.slice q a11.length c) a11) (Q := ?Q11) (fun key => ?a11) ?b11
 case a11 =>
  go_region_with (go_at_call 127; refine C11.out.mono ?_; rintro e w11 ⟨N11, ⟨q11, c11, rfl, hd11⟩, hF11a, hKa11⟩; have x11_0 := hF11a.cell1 (k := 17) (i := 10) rfl rfl; have z11_0 := hF11a.fz1 17; obtain ⟨W11_0, hW11_0, hF11_0, hK11_0⟩ := hF11a.set1 17 10 (Value.slice q11 a11.length c11) rfl (by simp); replace hF11_0 : Fm K (fun b => (fun b => (fun b => (fun b => (fun b => noB b ∨ N6 b) b ∨ N7 b) b ∨ N8 b) b ∨ N10 b) b ∨ N11 b) w t p mb 7 cur [Value.string a1, Value.string a2, Value.int .i64 a3, Value.int .i64 a4, Value.int .i64 a5, Value.slice q6 a6.length c6, Value.slice q7 a7.length c7, Value.slice q8 a8.length c8, Value.bool a9, Value.slice q10 a10.length c10, Value.slice q11 a11.length c11] W11_0 s11 := hF11_0)
  all_goals exact key N11 q11 c11 _ ⟨⟨hF11_0, (((Kept.refl _ _).drew.trans hKa11).trans (hK11_0.less (fun b hb => hb.elim Or.inl (fun h => Or.inr (Or.inl h)))))⟩, (ListIs.mono mKnd (fun _ h => h) (hK11_0.less (fun b hb => hb.elim (fun h => Or.inl (hDK b h)) (fun h => Or.inr (Or.inr h)))) hd11)⟩
 rintro N11 q11 c11 W11 ⟨⟨hF11b, hK11⟩, hd11⟩
 replace hd6 : ListIs rStp 3 32 (fun b => D b ∨ N6 b) W11 (.slice q6 a6.length c6) a6 := ListIs.mono mStp (fun _ h => h) (hK11.less (fun b hb => hb.elim (fun h => Or.inl (hDK b h)) (fun h => Or.inr (Or.inl (Or.inl (Or.inl (Or.inr h))))))) hd6
 replace hd7 : ListIs rInt 1 8 (fun b => D b ∨ N7 b) W11 (.slice q7 a7.length c7) a7 := ListIs.mono mInt (fun _ h => h) (hK11.less (fun b hb => hb.elim (fun h => Or.inl (hDK b h)) (fun h => Or.inr (Or.inl (Or.inl (Or.inr h)))))) hd7
 replace hd8 : ListIs rItm 2 32 (fun b => D b ∨ N8 b) W11 (.slice q8 a8.length c8) a8 := ListIs.mono mItm (fun _ h => h) (hK11.less (fun b hb => hb.elim (fun h => Or.inl (hDK b h)) (fun h => Or.inr (Or.inl (Or.inr h))))) hd8
 replace hd10 : ListIs rTxt 1 16 (fun b => D b ∨ N10 b) W11 (.slice q10 a10.length c10) a10 := ListIs.mono mTxt (fun _ h => h) (hK11.less (fun b hb => hb.elim (fun h => Or.inl (hDK b h)) (fun h => Or.inr (Or.inr h)))) hd10
 clear C11 cw11 HF11 hK11 cc11_0
 have HG : Hid (Fm K (fun b => (fun b => (fun b => (fun b => (fun b => noB b ∨ N6 b) b ∨ N7 b) b ∨ N8 b) b ∨ N10 b) b ∨ N11 b) w t p mb 7 cur [Value.string a1, Value.string a2, Value.int .i64 a3, Value.int .i64 a4, Value.int .i64 a5, Value.slice q6 a6.length c6, Value.slice q7 a7.length c7, Value.slice q8 a8.length c8, Value.bool a9, Value.slice q10 a10.length c10, Value.slice q11 a11.length c11] W11 s11) := hF11b
 have HE : Hid (bndP st ⟨xt, xj, xw, xl, xr, xh, xg, xi, xd, xn, xk⟩ = (⟨a1, a2, a3, a4, a5, a6, a7, a8, a9, a10, a11⟩, s11)) := by show _ = _; simp only [bndP, r1, r2, r3, r4, r5, r6, r7, r8, r9, r10, r11]
 have Hhd6 : Hid (ListIs rStp 3 32 (fun b => D b ∨ N6 b) W11 (.slice q6 a6.length c6) a6) := hd6
 have Hhd7 : Hid (ListIs rInt 1 8 (fun b => D b ∨ N7 b) W11 (.slice q7 a7.length c7) a7) := hd7
 have Hhd8 : Hid (ListIs rItm 2 32 (fun b => D b ∨ N8 b) W11 (.slice q8 a8.length c8) a8) := hd8
 have Hhd10 : Hid (ListIs rTxt 1 16 (fun b => D b ∨ N10 b) W11 (.slice q10 a10.length c10) a10) := hd10
 have Hhd11 : Hid (ListIs rKnd 1 1 (fun b => D b ∨ N11 b) W11 (.slice q11 a11.length c11) a11) := hd11
 clear hF11b hd6 hd7 hd8 hd10 hd11
 go_wp2_with fail
 go_end0
 obtain ⟨e1, ⟨cur', e2, e3⟩, e4, e5⟩ := HG.out.fin
 first | refine ⟨rfl, (fun b => (fun b => (fun b => (fun b => (fun b => noB b ∨ N6 b) b ∨ N7 b) b ∨ N8 b) b ∨ N10 b) b ∨ N11 b), cur', [Value.string a1, Value.string a2, Value.int .i64 a3, Value.int .i64 a4, Value.int .i64 a5, Value.slice q6 a6.length c6, Value.slice q7 a7.length c7, Value.slice q8 a8.length c8, Value.bool a9, Value.slice q10 a10.length c10, Value.slice q11 a11.length c11], e1, e2, rfl, e3, ?_, ?_, e5⟩ | refine ⟨rfl, (fun b => (fun b => (fun b => (fun b => (fun b => noB b ∨ N6 b) b ∨ N7 b) b ∨ N8 b) b ∨ N10 b) b ∨ N11 b), e1, cur', e2, [Value.string a1, Value.string a2, Value.int .i64 a3, Value.int .i64 a4, Value.int .i64 a5, Value.slice q6 a6.length c6, Value.slice q7 a7.length c7, Value.slice q8 a8.length c8, Value.bool a9, Value.slice q10 a10.length c10, Value.slice q11 a11.length c11], rfl, e3, ?_, ?_, e5⟩
 ·rw [HE.out]; exact ⟨_, _, _, _, _, rfl, n1, n2, n3, n4, n5, ListIs.mono mStp (fun b hb => hb.elim Or.inl (fun h => Or.inr (Or.inl (Or.inl (Or.inl (Or.inl (Or.inr h))))))) (Kept.refl _ _) Hhd6.out, ListIs.mono mInt (fun b hb => hb.elim Or.inl (fun h => Or.inr (Or.inl (Or.inl (Or.inl (Or.inr h)))))) (Kept.refl _ _) Hhd7.out, ListIs.mono mItm (fun b hb => hb.elim Or.inl (fun h => Or.inr (Or.inl (Or.inl (Or.inr h))))) (Kept.refl _ _) Hhd8.out, ListIs.mono mTxt (fun b hb => hb.elim Or.inl (fun h => Or.inr (Or.inl (Or.inr h)))) (Kept.refl _ _) Hhd10.out, ListIs.mono mKnd (fun b hb => hb.elim Or.inl (fun h => Or.inr (Or.inr h))) (Kept.refl _ _) Hhd11.out⟩
 ·rw [HE.out]; exact e4
end Go.Proofs.YtajomnfeicfdlaaGreatDoor
