/- What catalog, claims and file do answers. -/
import Derived.Test.YtajomnfeicfdlaaGreatDoorWnWoWp
import Derived.Test.YtajomnfeicfdlaaGreatDoorPc
import Derived.Test.YtajomnfeicfdlaaGreatDoorPfPg
import Derived.Test.YtajomnfeicfdlaaGreatDoorLTblLClm
namespace Go.Proofs.YtajomnfeicfdlaaGreatDoor
open Go.Shelf Go.RowKit Go.Lib
set_option linter.unusedVariables false
set_option linter.unusedSimpArgs false
attribute [local go_sem ↓] Go.wp_at_zero Go.wp_at_succ
theorem tbl41 (t p : Nat) : ListC rTbl 3 64 64 tblP tbl0 4127 t p 129 (.func (.func 130) #[wk t p] #[]) :=
 list41_any tblP tbl0 64 4127 t p 130 (wk t p) (by omega) (by omega) grows_tbl e42 (table_part t p)
theorem clm48 (t p : Nat) : ListC rClm 5 80 64 clmP clm0 4177 t p 136 (.func (.func 137) #[wk t p] #[]) :=
 list48_any clmP clm0 64 4177 t p 137 (wk t p) (by omega) (by omega) grows_clm e49 (claim_part t p)
set_option maxRecDepth 100000 in
set_option maxHeartbeats 8000000 in
theorem catalog_field (t p : Nat) : FieldC rTbls 18 1 (listP 64 tblP tbl0) 4137 t p 108 := by
 intro K D w st mb cur cs x htb hnk hbm hDK hlen hcur hrel h hl
 obtain ⟨v0, hcs, hv⟩ := hrel
 have hvx := hv
 obtain ⟨q0, c0, hv0, _⟩ := hvx
 subst hv0
 replace hcs : cs = [Value.slice q0 x.length c0] := hcs
 subst hcs
 have hml : mb < w.heap.size := (Array.getElem?_eq_some_iff.1 hbm).1
 obtain ⟨W0, hW0, hF0⟩ := Fm.start (lo := 18) h hnk hbm hcur
 obtain ⟨⟨a1, s1⟩, r1⟩ : ∃ q, listP 64 tblP tbl0 st x = q := ⟨_, rfl⟩
 have g1 := (grows_list 64 tbl0 grows_tbl) st x
 rw [r1] at g1
 simp only at g1
 have hli1 : ListIs rTbl 3 64 D W0.drew (Value.slice q0 x.length c0) x := hv.mono mTbl (fun _ h => h) (hF0.drew.kept.less hDK)
 have C1 : Hid (Calls Tryz.prog 129 #[.agg #[.iface t (.pointer (some ⟨p, 0, none⟩))], Value.slice q0 x.length c0, .int .u64 64, .func (.func 130) #[.agg #[.iface t (.pointer (some ⟨p, 0, none⟩))]] #[]] W0.drew fun e w' => ∃ N1 : Nat → Prop, (∃ q c, e = .returned (.slice q a1.length c) ∧ ListIs rTbl 3 64 (fun b => D b ∨ N1 b) w' (.slice q a1.length c) a1) ∧ Fm K (fun b => noB b ∨ N1 b) w t p mb 18 cur [Value.slice q0 x.length c0] w' s1 ∧ Kept (fun b => K b ∨ noB b) W0.drew w') := by
  refine hF0.drew.callN (R := fun N e w' => ∃ q c, e = .returned (.slice q a1.length c) ∧ ListIs rTbl 3 64 (fun b => D b ∨ N b) w' (.slice q a1.length c) a1) ?_
  have := tbl41 t p _ D W0.drew st (Value.slice q0 x.length c0) x (htb.mono (fun b hb => Or.inl hb) hF0.drew.kept) hF0.drew.port (fun b hb => .inl (hDK b hb)) hli1 (by omega)
  refine this.mono ?_
  rintro e w' ⟨N, v', rfl, h1, h2, h3, h4⟩
  replace h2 : PortIs _ w' t p (listP 64 tblP tbl0 st x).2 := h2
  replace h3 : ListIs rTbl 3 64 (fun b => D b ∨ N b) w' v' (listP 64 tblP tbl0 st x).1 := h3
  rw [r1] at h2 h3
  obtain ⟨q, c, rfl, h5⟩ := h3
  exact ⟨N, ⟨q, c, rfl, q, c, rfl, h5⟩, h1, h2, h4⟩
 have cw1 : W0.drew.cell? ⟨w.heap.size, 0, none⟩ = _ := hF0.drew.cell0
 have cc1_0 : W0.drew.cell? ⟨mb, 18, none⟩ = _ := hF0.drew.cell1 (k := 18) (i := 0) rfl rfl
 have HF1 : Hid (Fm K noB w t p mb 18 cur [Value.slice q0 x.length c0] W0 st) := hF0
 clear hF0
 show Calls Tryz.prog 108 #[.agg #[.iface t (.pointer (some ⟨p, 0, none⟩))], .pointer (some ⟨mb, 0, none⟩)] w _
 go_enter Tryz.func108, Tryz.ntmps108
 go_wp2_with fail
 refine viaN (A := fun N1 q c WX => (Fm K (fun b => noB b ∨ N1 b) w t p mb 18 cur [Value.slice q a1.length c] WX s1 ∧ Kept (fun b => K b ∨ noB b) W0 WX) ∧ ListIs rTbl 3 64 (fun b => D b ∨ N1 b) WX (.slice q a1.length c) a1) (Q := ?Q1) (fun key => ?a1) ?b1
 case a1 =>
  go_region_with (go_at_call 129; refine C1.out.mono ?_; rintro e w1 ⟨N1, ⟨q1, c1, rfl, hd1⟩, hF1a, hKa1⟩; have x1_0 := hF1a.cell1 (k := 18) (i := 0) rfl rfl; have z1_0 := hF1a.fz1 18; obtain ⟨W1_0, hW1_0, hF1_0, hK1_0⟩ := hF1a.set1 18 0 (Value.slice q1 a1.length c1) rfl (by simp); replace hF1_0 : Fm K (fun b => noB b ∨ N1 b) w t p mb 18 cur [Value.slice q1 a1.length c1] W1_0 s1 := hF1_0)
  all_goals exact key N1 q1 c1 _ ⟨⟨hF1_0, (((Kept.refl _ _).drew.trans hKa1).trans (hK1_0.less (fun b hb => hb.elim Or.inl (fun h => Or.inr (Or.inl h)))))⟩, (ListIs.mono mTbl (fun _ h => h) (hK1_0.less (fun b hb => hb.elim (fun h => Or.inl (hDK b h)) (fun h => Or.inr (Or.inr h)))) hd1)⟩
 rintro N1 q1 c1 W1 ⟨⟨hF1b, hK1⟩, hd1⟩
 clear C1 cw1 HF1 hK1 cc1_0
 have HG : Hid (Fm K (fun b => noB b ∨ N1 b) w t p mb 18 cur [Value.slice q1 a1.length c1] W1 s1) := hF1b
 have HE : Hid ((listP 64 tblP tbl0) st x = (a1, s1)) := r1
 have Hhd1 : Hid (ListIs rTbl 3 64 (fun b => D b ∨ N1 b) W1 (.slice q1 a1.length c1) a1) := hd1
 clear hF1b hd1
 go_wp2_with fail
 go_end0
 obtain ⟨e1, ⟨cur', e2, e3⟩, e4, e5⟩ := HG.out.fin
 first | refine ⟨rfl, (fun b => noB b ∨ N1 b), cur', [Value.slice q1 a1.length c1], e1, e2, rfl, e3, ?_, ?_, e5⟩ | refine ⟨rfl, (fun b => noB b ∨ N1 b), e1, cur', e2, [Value.slice q1 a1.length c1], rfl, e3, ?_, ?_, e5⟩
 ·rw [HE.out]; exact ⟨_, rfl, ListIs.mono mTbl (fun b hb => hb.elim Or.inl (fun h => Or.inr (Or.inr h))) (Kept.refl _ _) Hhd1.out⟩
 ·rw [HE.out]; exact e4
set_option maxRecDepth 100000 in
set_option maxHeartbeats 8000000 in
theorem claims_field (t p : Nat) : FieldC rClms 46 1 (listP 64 clmP clm0) 4187 t p 116 := by
 intro K D w st mb cur cs x htb hnk hbm hDK hlen hcur hrel h hl
 obtain ⟨v0, hcs, hv⟩ := hrel
 have hvx := hv
 obtain ⟨q0, c0, hv0, _⟩ := hvx
 subst hv0
 replace hcs : cs = [Value.slice q0 x.length c0] := hcs
 subst hcs
 have hml : mb < w.heap.size := (Array.getElem?_eq_some_iff.1 hbm).1
 obtain ⟨W0, hW0, hF0⟩ := Fm.start (lo := 46) h hnk hbm hcur
 obtain ⟨⟨a1, s1⟩, r1⟩ : ∃ q, listP 64 clmP clm0 st x = q := ⟨_, rfl⟩
 have g1 := (grows_list 64 clm0 grows_clm) st x
 rw [r1] at g1
 simp only at g1
 have hli1 : ListIs rClm 5 80 D W0.drew (Value.slice q0 x.length c0) x := hv.mono mClm (fun _ h => h) (hF0.drew.kept.less hDK)
 have C1 : Hid (Calls Tryz.prog 136 #[.agg #[.iface t (.pointer (some ⟨p, 0, none⟩))], Value.slice q0 x.length c0, .int .u64 64, .func (.func 137) #[.agg #[.iface t (.pointer (some ⟨p, 0, none⟩))]] #[]] W0.drew fun e w' => ∃ N1 : Nat → Prop, (∃ q c, e = .returned (.slice q a1.length c) ∧ ListIs rClm 5 80 (fun b => D b ∨ N1 b) w' (.slice q a1.length c) a1) ∧ Fm K (fun b => noB b ∨ N1 b) w t p mb 46 cur [Value.slice q0 x.length c0] w' s1 ∧ Kept (fun b => K b ∨ noB b) W0.drew w') := by
  refine hF0.drew.callN (R := fun N e w' => ∃ q c, e = .returned (.slice q a1.length c) ∧ ListIs rClm 5 80 (fun b => D b ∨ N b) w' (.slice q a1.length c) a1) ?_
  have := clm48 t p _ D W0.drew st (Value.slice q0 x.length c0) x (htb.mono (fun b hb => Or.inl hb) hF0.drew.kept) hF0.drew.port (fun b hb => .inl (hDK b hb)) hli1 (by omega)
  refine this.mono ?_
  rintro e w' ⟨N, v', rfl, h1, h2, h3, h4⟩
  replace h2 : PortIs _ w' t p (listP 64 clmP clm0 st x).2 := h2
  replace h3 : ListIs rClm 5 80 (fun b => D b ∨ N b) w' v' (listP 64 clmP clm0 st x).1 := h3
  rw [r1] at h2 h3
  obtain ⟨q, c, rfl, h5⟩ := h3
  exact ⟨N, ⟨q, c, rfl, q, c, rfl, h5⟩, h1, h2, h4⟩
 have cw1 : W0.drew.cell? ⟨w.heap.size, 0, none⟩ = _ := hF0.drew.cell0
 have cc1_0 : W0.drew.cell? ⟨mb, 46, none⟩ = _ := hF0.drew.cell1 (k := 46) (i := 0) rfl rfl
 have HF1 : Hid (Fm K noB w t p mb 46 cur [Value.slice q0 x.length c0] W0 st) := hF0
 clear hF0
 show Calls Tryz.prog 116 #[.agg #[.iface t (.pointer (some ⟨p, 0, none⟩))], .pointer (some ⟨mb, 0, none⟩)] w _
 go_enter Tryz.func116, Tryz.ntmps116
 go_wp2_with fail
 refine viaN (A := fun N1 q c WX => (Fm K (fun b => noB b ∨ N1 b) w t p mb 46 cur [Value.slice q a1.length c] WX s1 ∧ Kept (fun b => K b ∨ noB b) W0 WX) ∧ ListIs rClm 5 80 (fun b => D b ∨ N1 b) WX (.slice q a1.length c) a1) (Q := ?Q1) (fun key => ?a1) ?b1
 case a1 =>
  go_region_with (go_at_call 136; refine C1.out.mono ?_; rintro e w1 ⟨N1, ⟨q1, c1, rfl, hd1⟩, hF1a, hKa1⟩; have x1_0 := hF1a.cell1 (k := 46) (i := 0) rfl rfl; have z1_0 := hF1a.fz1 46; obtain ⟨W1_0, hW1_0, hF1_0, hK1_0⟩ := hF1a.set1 46 0 (Value.slice q1 a1.length c1) rfl (by simp); replace hF1_0 : Fm K (fun b => noB b ∨ N1 b) w t p mb 46 cur [Value.slice q1 a1.length c1] W1_0 s1 := hF1_0)
  all_goals exact key N1 q1 c1 _ ⟨⟨hF1_0, (((Kept.refl _ _).drew.trans hKa1).trans (hK1_0.less (fun b hb => hb.elim Or.inl (fun h => Or.inr (Or.inl h)))))⟩, (ListIs.mono mClm (fun _ h => h) (hK1_0.less (fun b hb => hb.elim (fun h => Or.inl (hDK b h)) (fun h => Or.inr (Or.inr h)))) hd1)⟩
 rintro N1 q1 c1 W1 ⟨⟨hF1b, hK1⟩, hd1⟩
 clear C1 cw1 HF1 hK1 cc1_0
 have HG : Hid (Fm K (fun b => noB b ∨ N1 b) w t p mb 46 cur [Value.slice q1 a1.length c1] W1 s1) := hF1b
 have HE : Hid ((listP 64 clmP clm0) st x = (a1, s1)) := r1
 have Hhd1 : Hid (ListIs rClm 5 80 (fun b => D b ∨ N1 b) W1 (.slice q1 a1.length c1) a1) := hd1
 clear hF1b hd1
 go_wp2_with fail
 go_end0
 obtain ⟨e1, ⟨cur', e2, e3⟩, e4, e5⟩ := HG.out.fin
 first | refine ⟨rfl, (fun b => noB b ∨ N1 b), cur', [Value.slice q1 a1.length c1], e1, e2, rfl, e3, ?_, ?_, e5⟩ | refine ⟨rfl, (fun b => noB b ∨ N1 b), e1, cur', e2, [Value.slice q1 a1.length c1], rfl, e3, ?_, ?_, e5⟩
 ·rw [HE.out]; exact ⟨_, rfl, ListIs.mono mClm (fun b hb => hb.elim Or.inl (fun h => Or.inr (Or.inr h))) (Kept.refl _ _) Hhd1.out⟩
 ·rw [HE.out]; exact e4
set_option maxRecDepth 100000 in
set_option maxHeartbeats 8000000 in
theorem file_field (t p : Nat) : FieldC rFh 40 5 fhP 4157 t p 114 := by
 intro K D w st mb cur cs ⟨xt, ⟨xb, xl⟩, xs, xc⟩ htb hnk hbm hDK hlen hcur hrel h hl
 obtain ⟨v0, hcs, hts, ⟨hb1, hl1⟩, hsi, hv⟩ := hrel
 simp only at hts hb1 hl1 hsi hv
 have hvx := hv
 obtain ⟨q0, c0, hv0, _⟩ := hvx
 subst hv0
 replace hcs : cs = [Value.string xt, Value.int .u64 (xb : Int), Value.int .u64 (xl : Int), Value.int .i64 xs, Value.slice q0 xc.length c0] := hcs
 subst hcs
 have hmt := m_txt h.isT p
 have egt := e_txt h.isT
 obtain ⟨TF, hTF⟩ : ∃ F, txF t = F := ⟨_, rfl⟩
 rw [hTF] at hmt egt
 have hml : mb < w.heap.size := (Array.getElem?_eq_some_iff.1 hbm).1
 obtain ⟨W0, hW0, hF0⟩ := Fm.start (lo := 40) h hnk hbm hcur
 obtain ⟨⟨a1, s1⟩, r1⟩ : ∃ q, txtP st xt = q := ⟨_, rfl⟩
 have g1 := grows_txt st xt
 rw [r1] at g1
 simp only at g1
 have n1 : small a1 := by have := txtP_small st xt (by assumption); rw [r1] at this; exact this
 have C1 : Hid (Calls Tryz.prog TF #[.pointer (some ⟨p, 0, none⟩), .string xt] W0.drew fun e w' => e = .returned (.string a1) ∧ Fm K noB w t p mb 40 cur [Value.string xt, Value.int .u64 (xb : Int), Value.int .u64 (xl : Int), Value.int .i64 xs, Value.slice q0 xc.length c0] w' s1 ∧ Kept (fun b => K b ∨ noB b) W0.drew w') := by
  refine hF0.drew.call (R := fun e => e = .returned (.string a1)) ?_
  have := txt_any _ t p st xt W0.drew hF0.drew.port (by first | assumption | omega) (by omega)
  rw [r1, hTF] at this
  exact this
 have cw1 : W0.drew.cell? ⟨w.heap.size, 0, none⟩ = _ := hF0.drew.cell0
 have cc1_0 : W0.drew.cell? ⟨mb, 40, none⟩ = _ := hF0.drew.cell1 (k := 40) (i := 0) rfl rfl
 have HF1 : Hid (Fm K noB w t p mb 40 cur [Value.string xt, Value.int .u64 (xb : Int), Value.int .u64 (xl : Int), Value.int .i64 xs, Value.slice q0 xc.length c0] W0 st) := hF0
 clear hF0
 show Calls Tryz.prog 114 #[.agg #[.iface t (.pointer (some ⟨p, 0, none⟩))], .pointer (some ⟨mb, 0, none⟩)] w _
 go_enter Tryz.func114, Tryz.ntmps114
 go_wp2_with fail
 refine via (A := fun WX => Fm K noB w t p mb 40 cur [Value.string a1, Value.int .u64 (xb : Int), Value.int .u64 (xl : Int), Value.int .i64 xs, Value.slice q0 xc.length c0] WX s1 ∧ Kept (fun b => K b ∨ noB b) W0 WX) (Q := ?Q1) (fun key => ?a1) ?b1
 case a1 =>
  go_region_with (go_at_fn TF; refine C1.out.mono ?_; rintro e w1 ⟨rfl, hF1a, hKa1⟩; have x1_0 := hF1a.cell1 (k := 40) (i := 0) rfl rfl; have z1_0 := hF1a.fz1 40; obtain ⟨W1_0, hW1_0, hF1_0, hK1_0⟩ := hF1a.set1 40 0 (Value.string a1) rfl (by simp); replace hF1_0 : Fm K noB w t p mb 40 cur [Value.string a1, Value.int .u64 (xb : Int), Value.int .u64 (xl : Int), Value.int .i64 xs, Value.slice q0 xc.length c0] W1_0 s1 := hF1_0)
  all_goals exact key _ ⟨hF1_0, (((Kept.refl _ _).drew.trans hKa1).trans hK1_0)⟩
 rintro W1 ⟨hF1b, hK1⟩
 clear C1 cw1 HF1 hK1 cc1_0
 obtain ⟨⟨⟨a2, b2⟩, s2⟩, r2⟩ : ∃ q, vrsP s1 ⟨xb, xl⟩ = q := ⟨_, rfl⟩
 have g2 := grows_vrs s1 ⟨xb, xl⟩
 rw [r2] at g2
 simp only at g2
 have n2 : a2 < 18446744073709551616 ∧ b2 < 18446744073709551616 := by have := vrsP_ok s1 ⟨xb, xl⟩ ⟨by assumption, by assumption⟩; rw [r2] at this; exact this
 have C2 : Hid (Calls Tryz.prog 134 #[.agg #[.iface t (.pointer (some ⟨p, 0, none⟩))], .agg #[Value.int .u64 (xb : Int), Value.int .u64 (xl : Int)]] W1.drew fun e w' => e = .returned (.agg #[Value.int .u64 (a2 : Int), Value.int .u64 (b2 : Int)]) ∧ Fm K noB w t p mb 40 cur [Value.string a1, Value.int .u64 (xb : Int), Value.int .u64 (xl : Int), Value.int .i64 xs, Value.slice q0 xc.length c0] w' s2 ∧ Kept (fun b => K b ∨ noB b) W1.drew w') := by
  refine hF1b.drew.call (R := fun e => e = .returned (.agg #[Value.int .u64 (a2 : Int), Value.int .u64 (b2 : Int)])) ?_
  have := ver_any _ t p s1 xb xl W1.drew (htb.mono (fun b hb => Or.inl hb) hF1b.drew.kept) hF1b.drew.port (by assumption) (by assumption) (by omega)
  rw [r2] at this
  exact this
 have cw2 : W1.drew.cell? ⟨w.heap.size, 0, none⟩ = _ := hF1b.drew.cell0
 have cc2_0 : W1.drew.cell? ⟨mb, 41, none⟩ = _ := hF1b.drew.cell1 (k := 41) (i := 1) rfl rfl
 have cc2_1 : W1.drew.cell? ⟨mb, 42, none⟩ = _ := hF1b.drew.cell1 (k := 42) (i := 2) rfl rfl
 have HF2 : Hid (Fm K noB w t p mb 40 cur [Value.string a1, Value.int .u64 (xb : Int), Value.int .u64 (xl : Int), Value.int .i64 xs, Value.slice q0 xc.length c0] W1 s1) := hF1b
 clear hF1b
 go_wp2_with fail
 refine via (A := fun WX => Fm K noB w t p mb 40 cur [Value.string a1, Value.int .u64 (a2 : Int), Value.int .u64 (b2 : Int), Value.int .i64 xs, Value.slice q0 xc.length c0] WX s2 ∧ Kept (fun b => K b ∨ noB b) W1 WX) (Q := ?Q2) (fun key => ?a2) ?b2
 case a2 =>
  go_region_with (go_at_call 134; refine C2.out.mono ?_; rintro e w2 ⟨rfl, hF2a, hKa2⟩; have x2_0 := hF2a.cell1 (k := 41) (i := 1) rfl rfl; have z2_0 := hF2a.fz1 41; obtain ⟨W2_0, hW2_0, hF2_0, hK2_0⟩ := hF2a.set1 41 1 (Value.int .u64 (a2 : Int)) rfl (by simp); replace hF2_0 : Fm K noB w t p mb 40 cur [Value.string a1, Value.int .u64 (a2 : Int), Value.int .u64 (xl : Int), Value.int .i64 xs, Value.slice q0 xc.length c0] W2_0 s2 := hF2_0; have x2_1 := hF2_0.cell1 (k := 42) (i := 2) rfl rfl; have z2_1 := hF2_0.fz1 42; obtain ⟨W2_1, hW2_1, hF2_1, hK2_1⟩ := hF2_0.set1 42 2 (Value.int .u64 (b2 : Int)) rfl (by simp); replace hF2_1 : Fm K noB w t p mb 40 cur [Value.string a1, Value.int .u64 (a2 : Int), Value.int .u64 (b2 : Int), Value.int .i64 xs, Value.slice q0 xc.length c0] W2_1 s2 := hF2_1)
  all_goals exact key _ ⟨hF2_1, ((((Kept.refl _ _).drew.trans hKa2).trans hK2_0).trans hK2_1)⟩
 rintro W2 ⟨hF2b, hK2⟩
 clear C2 cw2 HF2 hK2 cc2_0 cc2_1
 obtain ⟨⟨a3, s3⟩, r3⟩ : ∃ q, longP s2 xs = q := ⟨_, rfl⟩
 have g3 := grows_long s2 xs
 rw [r3] at g3
 simp only at g3
 have n3 : I64 a3 := by have := longP_in s2 xs (by assumption); rw [r3] at this; exact this
 have C3 : Hid (Calls Tryz.prog 120 #[.agg #[.iface t (.pointer (some ⟨p, 0, none⟩))], .int .i64 xs] W2.drew fun e w' => e = .returned (.int .i64 a3) ∧ Fm K noB w t p mb 40 cur [Value.string a1, Value.int .u64 (a2 : Int), Value.int .u64 (b2 : Int), Value.int .i64 xs, Value.slice q0 xc.length c0] w' s3 ∧ Kept (fun b => K b ∨ noB b) W2.drew w') := by
  refine hF2b.drew.call (R := fun e => e = .returned (.int .i64 a3)) ?_
  have := whole_any _ t p s2 xs W2.drew hF2b.drew.port (by first | assumption | omega) (by omega)
  rw [r3] at this
  exact this
 have cw3 : W2.drew.cell? ⟨w.heap.size, 0, none⟩ = _ := hF2b.drew.cell0
 have cc3_0 : W2.drew.cell? ⟨mb, 43, none⟩ = _ := hF2b.drew.cell1 (k := 43) (i := 3) rfl rfl
 have HF3 : Hid (Fm K noB w t p mb 40 cur [Value.string a1, Value.int .u64 (a2 : Int), Value.int .u64 (b2 : Int), Value.int .i64 xs, Value.slice q0 xc.length c0] W2 s2) := hF2b
 clear hF2b
 go_wp2_with fail
 refine via (A := fun WX => Fm K noB w t p mb 40 cur [Value.string a1, Value.int .u64 (a2 : Int), Value.int .u64 (b2 : Int), Value.int .i64 a3, Value.slice q0 xc.length c0] WX s3 ∧ Kept (fun b => K b ∨ noB b) W2 WX) (Q := ?Q3) (fun key => ?a3) ?b3
 case a3 =>
  go_region_with (go_at_call 120; refine C3.out.mono ?_; rintro e w3 ⟨rfl, hF3a, hKa3⟩; have x3_0 := hF3a.cell1 (k := 43) (i := 3) rfl rfl; have z3_0 := hF3a.fz1 43; obtain ⟨W3_0, hW3_0, hF3_0, hK3_0⟩ := hF3a.set1 43 3 (Value.int .i64 a3) rfl (by simp); replace hF3_0 : Fm K noB w t p mb 40 cur [Value.string a1, Value.int .u64 (a2 : Int), Value.int .u64 (b2 : Int), Value.int .i64 a3, Value.slice q0 xc.length c0] W3_0 s3 := hF3_0)
  all_goals exact key _ ⟨hF3_0, (((Kept.refl _ _).drew.trans hKa3).trans hK3_0)⟩
 rintro W3 ⟨hF3b, hK3⟩
 clear C3 cw3 HF3 hK3 cc3_0
 obtain ⟨⟨a4, s4⟩, r4⟩ : ∃ q, clsP s3 xc = q := ⟨_, rfl⟩
 have g4 := grows_cls s3 xc
 rw [r4] at g4
 simp only at g4
 have hli4 : ListIs rCl 2 24 D W3.drew (Value.slice q0 xc.length c0) xc := hv.mono mCl (fun _ h => h) (hF3b.drew.kept.less hDK)
 have C4 : Hid (Calls Tryz.prog 135 #[.agg #[.iface t (.pointer (some ⟨p, 0, none⟩))], Value.slice q0 xc.length c0] W3.drew fun e w' => ∃ N4 : Nat → Prop, (∃ q c, e = .returned (.slice q a4.length c) ∧ ListIs rCl 2 24 (fun b => D b ∨ N4 b) w' (.slice q a4.length c) a4) ∧ Fm K (fun b => noB b ∨ N4 b) w t p mb 40 cur [Value.string a1, Value.int .u64 (a2 : Int), Value.int .u64 (b2 : Int), Value.int .i64 a3, Value.slice q0 xc.length c0] w' s4 ∧ Kept (fun b => K b ∨ noB b) W3.drew w') := by
  refine hF3b.drew.callN (R := fun N e w' => ∃ q c, e = .returned (.slice q a4.length c) ∧ ListIs rCl 2 24 (fun b => D b ∨ N b) w' (.slice q a4.length c) a4) ?_
  have := columns_any t p _ D W3.drew s3 (Value.slice q0 xc.length c0) xc (htb.mono (fun b hb => Or.inl hb) hF3b.drew.kept) hF3b.drew.port (fun b hb => .inl (hDK b hb)) hli4 (by omega)
  refine this.mono ?_
  rintro e w' ⟨N, v', rfl, h1, h2, h3, h4⟩
  replace h2 : PortIs _ w' t p (clsP s3 xc).2 := h2
  replace h3 : ListIs rCl 2 24 (fun b => D b ∨ N b) w' v' (clsP s3 xc).1 := h3
  rw [r4] at h2 h3
  obtain ⟨q, c, rfl, h5⟩ := h3
  exact ⟨N, ⟨q, c, rfl, q, c, rfl, h5⟩, h1, h2, h4⟩
 have cw4 : W3.drew.cell? ⟨w.heap.size, 0, none⟩ = _ := hF3b.drew.cell0
 have cc4_0 : W3.drew.cell? ⟨mb, 44, none⟩ = _ := hF3b.drew.cell1 (k := 44) (i := 4) rfl rfl
 have HF4 : Hid (Fm K noB w t p mb 40 cur [Value.string a1, Value.int .u64 (a2 : Int), Value.int .u64 (b2 : Int), Value.int .i64 a3, Value.slice q0 xc.length c0] W3 s3) := hF3b
 clear hF3b
 go_wp2_with fail
 refine viaN (A := fun N4 q c WX => (Fm K (fun b => noB b ∨ N4 b) w t p mb 40 cur [Value.string a1, Value.int .u64 (a2 : Int), Value.int .u64 (b2 : Int), Value.int .i64 a3, Value.slice q a4.length c] WX s4 ∧ Kept (fun b => K b ∨ noB b) W3 WX) ∧ ListIs rCl 2 24 (fun b => D b ∨ N4 b) WX (.slice q a4.length c) a4) (Q := ?Q4) (fun key => ?a4) ?b4
 case a4 =>
  go_region_with (go_at_call 135; refine C4.out.mono ?_; rintro e w4 ⟨N4, ⟨q4, c4, rfl, hd4⟩, hF4a, hKa4⟩; have x4_0 := hF4a.cell1 (k := 44) (i := 4) rfl rfl; have z4_0 := hF4a.fz1 44; obtain ⟨W4_0, hW4_0, hF4_0, hK4_0⟩ := hF4a.set1 44 4 (Value.slice q4 a4.length c4) rfl (by simp); replace hF4_0 : Fm K (fun b => noB b ∨ N4 b) w t p mb 40 cur [Value.string a1, Value.int .u64 (a2 : Int), Value.int .u64 (b2 : Int), Value.int .i64 a3, Value.slice q4 a4.length c4] W4_0 s4 := hF4_0)
  all_goals exact key N4 q4 c4 _ ⟨⟨hF4_0, (((Kept.refl _ _).drew.trans hKa4).trans (hK4_0.less (fun b hb => hb.elim Or.inl (fun h => Or.inr (Or.inl h)))))⟩, (ListIs.mono mCl (fun _ h => h) (hK4_0.less (fun b hb => hb.elim (fun h => Or.inl (hDK b h)) (fun h => Or.inr (Or.inr h)))) hd4)⟩
 rintro N4 q4 c4 W4 ⟨⟨hF4b, hK4⟩, hd4⟩
 clear C4 cw4 HF4 hK4 cc4_0
 have HG : Hid (Fm K (fun b => noB b ∨ N4 b) w t p mb 40 cur [Value.string a1, Value.int .u64 (a2 : Int), Value.int .u64 (b2 : Int), Value.int .i64 a3, Value.slice q4 a4.length c4] W4 s4) := hF4b
 have HE : Hid (fhP st ⟨xt, ⟨xb, xl⟩, xs, xc⟩ = (⟨a1, ⟨a2, b2⟩, a3, a4⟩, s4)) := by show _ = _; simp only [fhP, r1, r2, r3, r4]
 have Hhd4 : Hid (ListIs rCl 2 24 (fun b => D b ∨ N4 b) W4 (.slice q4 a4.length c4) a4) := hd4
 clear hF4b hd4
 go_wp2_with fail
 go_end0
 obtain ⟨e1, ⟨cur', e2, e3⟩, e4, e5⟩ := HG.out.fin
 first | refine ⟨rfl, (fun b => noB b ∨ N4 b), cur', [Value.string a1, Value.int .u64 (a2 : Int), Value.int .u64 (b2 : Int), Value.int .i64 a3, Value.slice q4 a4.length c4], e1, e2, rfl, e3, ?_, ?_, e5⟩ | refine ⟨rfl, (fun b => noB b ∨ N4 b), e1, cur', e2, [Value.string a1, Value.int .u64 (a2 : Int), Value.int .u64 (b2 : Int), Value.int .i64 a3, Value.slice q4 a4.length c4], rfl, e3, ?_, ?_, e5⟩
 ·rw [HE.out]; exact ⟨_, rfl, n1, n2, n3, ListIs.mono mCl (fun b hb => hb.elim Or.inl (fun h => Or.inr (Or.inr h))) (Kept.refl _ _) Hhd4.out⟩
 ·rw [HE.out]; exact e4
end Go.Proofs.YtajomnfeicfdlaaGreatDoor
