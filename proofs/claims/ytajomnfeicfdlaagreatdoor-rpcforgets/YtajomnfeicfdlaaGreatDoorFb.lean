/- What nodes, rows and fileRows do answers. -/
import Derived.Test.YtajomnfeicfdlaaGreatDoorWnWoWp
import Derived.Test.YtajomnfeicfdlaaGreatDoorPc
import Derived.Test.YtajomnfeicfdlaaGreatDoorPh
namespace Go.Proofs.YtajomnfeicfdlaaGreatDoor
open Go.Shelf Go.RowKit Go.Lib
set_option linter.unusedVariables false
set_option linter.unusedSimpArgs false
attribute [local go_sem ↓] Go.wp_at_zero Go.wp_at_succ
theorem rows44 (t p : Nat) : ListC rRow 1 24 512 rowP [] 2069 t p 132 (.func (.func 133) #[wk t p] #[]) :=
 list44_any rowP [] 512 2069 t p 133 (wk t p) (by omega) (by omega) grows_row e45 (row_part t p)
set_option maxRecDepth 100000 in
set_option maxHeartbeats 8000000 in
theorem nodes_field (t p : Nat) : FieldC rInts 36 1 intsP 20 t p 110 := by
 intro K D w st mb cur cs x htb hnk hbm hDK hlen hcur hrel h hl
 obtain ⟨v0, hcs, hv⟩ := hrel
 have hvx := hv
 obtain ⟨q0, c0, hv0, _⟩ := hvx
 subst hv0
 replace hcs : cs = [Value.slice q0 x.length c0] := hcs
 subst hcs
 have hml : mb < w.heap.size := (Array.getElem?_eq_some_iff.1 hbm).1
 obtain ⟨W0, hW0, hF0⟩ := Fm.start (lo := 36) h hnk hbm hcur
 obtain ⟨⟨a1, s1⟩, r1⟩ : ∃ q, intsP st x = q := ⟨_, rfl⟩
 have g1 := grows_ints st x
 rw [r1] at g1
 simp only at g1
 have hli1 : ListIs rInt 1 8 D W0.drew (Value.slice q0 x.length c0) x := hv.mono mInt (fun _ h => h) (hF0.drew.kept.less hDK)
 have C1 : Hid (Calls Tryz.prog 122 #[.agg #[.iface t (.pointer (some ⟨p, 0, none⟩))], Value.slice q0 x.length c0] W0.drew fun e w' => ∃ N1 : Nat → Prop, (∃ q c, e = .returned (.slice q a1.length c) ∧ ListIs rInt 1 8 (fun b => D b ∨ N1 b) w' (.slice q a1.length c) a1) ∧ Fm K (fun b => noB b ∨ N1 b) w t p mb 36 cur [Value.slice q0 x.length c0] w' s1 ∧ Kept (fun b => K b ∨ noB b) W0.drew w') := by
  refine hF0.drew.callN (R := fun N e w' => ∃ q c, e = .returned (.slice q a1.length c) ∧ ListIs rInt 1 8 (fun b => D b ∨ N b) w' (.slice q a1.length c) a1) ?_
  have := wholes_any t p _ D W0.drew st (Value.slice q0 x.length c0) x (htb.mono (fun b hb => Or.inl hb) hF0.drew.kept) hF0.drew.port (fun b hb => .inl (hDK b hb)) hli1 (by omega)
  refine this.mono ?_
  rintro e w' ⟨N, v', rfl, h1, h2, h3, h4⟩
  replace h2 : PortIs _ w' t p (intsP st x).2 := h2
  replace h3 : ListIs rInt 1 8 (fun b => D b ∨ N b) w' v' (intsP st x).1 := h3
  rw [r1] at h2 h3
  obtain ⟨q, c, rfl, h5⟩ := h3
  exact ⟨N, ⟨q, c, rfl, q, c, rfl, h5⟩, h1, h2, h4⟩
 have cw1 : W0.drew.cell? ⟨w.heap.size, 0, none⟩ = _ := hF0.drew.cell0
 have cc1_0 : W0.drew.cell? ⟨mb, 36, none⟩ = _ := hF0.drew.cell1 (k := 36) (i := 0) rfl rfl
 have HF1 : Hid (Fm K noB w t p mb 36 cur [Value.slice q0 x.length c0] W0 st) := hF0
 clear hF0
 show Calls Tryz.prog 110 #[.agg #[.iface t (.pointer (some ⟨p, 0, none⟩))], .pointer (some ⟨mb, 0, none⟩)] w _
 go_enter Tryz.func110, Tryz.ntmps110
 go_wp2_with fail
 refine viaN (A := fun N1 q c WX => (Fm K (fun b => noB b ∨ N1 b) w t p mb 36 cur [Value.slice q a1.length c] WX s1 ∧ Kept (fun b => K b ∨ noB b) W0 WX) ∧ ListIs rInt 1 8 (fun b => D b ∨ N1 b) WX (.slice q a1.length c) a1) (Q := ?Q1) (fun key => ?a1) ?b1
 case a1 =>
  go_region_with (go_at_call 122; refine C1.out.mono ?_; rintro e w1 ⟨N1, ⟨q1, c1, rfl, hd1⟩, hF1a, hKa1⟩; have x1_0 := hF1a.cell1 (k := 36) (i := 0) rfl rfl; have z1_0 := hF1a.fz1 36; obtain ⟨W1_0, hW1_0, hF1_0, hK1_0⟩ := hF1a.set1 36 0 (Value.slice q1 a1.length c1) rfl (by simp); replace hF1_0 : Fm K (fun b => noB b ∨ N1 b) w t p mb 36 cur [Value.slice q1 a1.length c1] W1_0 s1 := hF1_0)
  all_goals exact key N1 q1 c1 _ ⟨⟨hF1_0, (((Kept.refl _ _).drew.trans hKa1).trans (hK1_0.less (fun b hb => hb.elim Or.inl (fun h => Or.inr (Or.inl h)))))⟩, (ListIs.mono mInt (fun _ h => h) (hK1_0.less (fun b hb => hb.elim (fun h => Or.inl (hDK b h)) (fun h => Or.inr (Or.inr h)))) hd1)⟩
 rintro N1 q1 c1 W1 ⟨⟨hF1b, hK1⟩, hd1⟩
 clear C1 cw1 HF1 hK1 cc1_0
 have HG : Hid (Fm K (fun b => noB b ∨ N1 b) w t p mb 36 cur [Value.slice q1 a1.length c1] W1 s1) := hF1b
 have HE : Hid (intsP st x = (a1, s1)) := r1
 have Hhd1 : Hid (ListIs rInt 1 8 (fun b => D b ∨ N1 b) W1 (.slice q1 a1.length c1) a1) := hd1
 clear hF1b hd1
 go_wp2_with fail
 go_end0
 obtain ⟨e1, ⟨cur', e2, e3⟩, e4, e5⟩ := HG.out.fin
 first | refine ⟨rfl, (fun b => noB b ∨ N1 b), cur', [Value.slice q1 a1.length c1], e1, e2, rfl, e3, ?_, ?_, e5⟩ | refine ⟨rfl, (fun b => noB b ∨ N1 b), e1, cur', e2, [Value.slice q1 a1.length c1], rfl, e3, ?_, ?_, e5⟩
 ·rw [HE.out]; exact ⟨_, rfl, ListIs.mono mInt (fun b hb => hb.elim Or.inl (fun h => Or.inr (Or.inr h))) (Kept.refl _ _) Hhd1.out⟩
 ·rw [HE.out]; exact e4
set_option maxRecDepth 100000 in
set_option maxHeartbeats 8000000 in
theorem rows_field (t p : Nat) : FieldC rRws 39 1 rowsP 2079 t p 113 := by
 intro K D w st mb cur cs x htb hnk hbm hDK hlen hcur hrel h hl
 obtain ⟨v0, hcs, hv⟩ := hrel
 have hvx := hv
 obtain ⟨q0, c0, hv0, _⟩ := hvx
 subst hv0
 replace hcs : cs = [Value.slice q0 x.length c0] := hcs
 subst hcs
 have hml : mb < w.heap.size := (Array.getElem?_eq_some_iff.1 hbm).1
 obtain ⟨W0, hW0, hF0⟩ := Fm.start (lo := 39) h hnk hbm hcur
 obtain ⟨⟨a1, s1⟩, r1⟩ : ∃ q, rowsP st x = q := ⟨_, rfl⟩
 have g1 := grows_rows st x
 rw [r1] at g1
 simp only at g1
 have hli1 : ListIs rRow 1 24 D W0.drew (Value.slice q0 x.length c0) x := hv.mono mRow (fun _ h => h) (hF0.drew.kept.less hDK)
 have C1 : Hid (Calls Tryz.prog 132 #[.agg #[.iface t (.pointer (some ⟨p, 0, none⟩))], Value.slice q0 x.length c0, .int .u64 512, .func (.func 133) #[.agg #[.iface t (.pointer (some ⟨p, 0, none⟩))]] #[]] W0.drew fun e w' => ∃ N1 : Nat → Prop, (∃ q c, e = .returned (.slice q a1.length c) ∧ ListIs rRow 1 24 (fun b => D b ∨ N1 b) w' (.slice q a1.length c) a1) ∧ Fm K (fun b => noB b ∨ N1 b) w t p mb 39 cur [Value.slice q0 x.length c0] w' s1 ∧ Kept (fun b => K b ∨ noB b) W0.drew w') := by
  refine hF0.drew.callN (R := fun N e w' => ∃ q c, e = .returned (.slice q a1.length c) ∧ ListIs rRow 1 24 (fun b => D b ∨ N b) w' (.slice q a1.length c) a1) ?_
  have := rows44 t p _ D W0.drew st (Value.slice q0 x.length c0) x (htb.mono (fun b hb => Or.inl hb) hF0.drew.kept) hF0.drew.port (fun b hb => .inl (hDK b hb)) hli1 (by omega)
  refine this.mono ?_
  rintro e w' ⟨N, v', rfl, h1, h2, h3, h4⟩
  replace h2 : PortIs _ w' t p (rowsP st x).2 := h2
  replace h3 : ListIs rRow 1 24 (fun b => D b ∨ N b) w' v' (rowsP st x).1 := h3
  rw [r1] at h2 h3
  obtain ⟨q, c, rfl, h5⟩ := h3
  exact ⟨N, ⟨q, c, rfl, q, c, rfl, h5⟩, h1, h2, h4⟩
 have cw1 : W0.drew.cell? ⟨w.heap.size, 0, none⟩ = _ := hF0.drew.cell0
 have cc1_0 : W0.drew.cell? ⟨mb, 39, none⟩ = _ := hF0.drew.cell1 (k := 39) (i := 0) rfl rfl
 have HF1 : Hid (Fm K noB w t p mb 39 cur [Value.slice q0 x.length c0] W0 st) := hF0
 clear hF0
 show Calls Tryz.prog 113 #[.agg #[.iface t (.pointer (some ⟨p, 0, none⟩))], .pointer (some ⟨mb, 0, none⟩)] w _
 go_enter Tryz.func113, Tryz.ntmps113
 go_wp2_with fail
 refine viaN (A := fun N1 q c WX => (Fm K (fun b => noB b ∨ N1 b) w t p mb 39 cur [Value.slice q a1.length c] WX s1 ∧ Kept (fun b => K b ∨ noB b) W0 WX) ∧ ListIs rRow 1 24 (fun b => D b ∨ N1 b) WX (.slice q a1.length c) a1) (Q := ?Q1) (fun key => ?a1) ?b1
 case a1 =>
  go_region_with (go_at_call 132; refine C1.out.mono ?_; rintro e w1 ⟨N1, ⟨q1, c1, rfl, hd1⟩, hF1a, hKa1⟩; have x1_0 := hF1a.cell1 (k := 39) (i := 0) rfl rfl; have z1_0 := hF1a.fz1 39; obtain ⟨W1_0, hW1_0, hF1_0, hK1_0⟩ := hF1a.set1 39 0 (Value.slice q1 a1.length c1) rfl (by simp); replace hF1_0 : Fm K (fun b => noB b ∨ N1 b) w t p mb 39 cur [Value.slice q1 a1.length c1] W1_0 s1 := hF1_0)
  all_goals exact key N1 q1 c1 _ ⟨⟨hF1_0, (((Kept.refl _ _).drew.trans hKa1).trans (hK1_0.less (fun b hb => hb.elim Or.inl (fun h => Or.inr (Or.inl h)))))⟩, (ListIs.mono mRow (fun _ h => h) (hK1_0.less (fun b hb => hb.elim (fun h => Or.inl (hDK b h)) (fun h => Or.inr (Or.inr h)))) hd1)⟩
 rintro N1 q1 c1 W1 ⟨⟨hF1b, hK1⟩, hd1⟩
 clear C1 cw1 HF1 hK1 cc1_0
 have HG : Hid (Fm K (fun b => noB b ∨ N1 b) w t p mb 39 cur [Value.slice q1 a1.length c1] W1 s1) := hF1b
 have HE : Hid (rowsP st x = (a1, s1)) := by show _ = _; exact r1
 have Hhd1 : Hid (ListIs rRow 1 24 (fun b => D b ∨ N1 b) W1 (.slice q1 a1.length c1) a1) := hd1
 clear hF1b hd1
 go_wp2_with fail
 go_end0
 obtain ⟨e1, ⟨cur', e2, e3⟩, e4, e5⟩ := HG.out.fin
 first | refine ⟨rfl, (fun b => noB b ∨ N1 b), cur', [Value.slice q1 a1.length c1], e1, e2, rfl, e3, ?_, ?_, e5⟩ | refine ⟨rfl, (fun b => noB b ∨ N1 b), e1, cur', e2, [Value.slice q1 a1.length c1], rfl, e3, ?_, ?_, e5⟩
 ·rw [HE.out]; exact ⟨_, rfl, ListIs.mono mRow (fun b hb => hb.elim Or.inl (fun h => Or.inr (Or.inr h))) (Kept.refl _ _) Hhd1.out⟩
 ·rw [HE.out]; exact e4
set_option maxRecDepth 100000 in
set_option maxHeartbeats 8000000 in
theorem fileRows_field (t p : Nat) : FieldC rRws 45 1 rowsP 2079 t p 115 := by
 intro K D w st mb cur cs x htb hnk hbm hDK hlen hcur hrel h hl
 obtain ⟨v0, hcs, hv⟩ := hrel
 have hvx := hv
 obtain ⟨q0, c0, hv0, _⟩ := hvx
 subst hv0
 replace hcs : cs = [Value.slice q0 x.length c0] := hcs
 subst hcs
 have hml : mb < w.heap.size := (Array.getElem?_eq_some_iff.1 hbm).1
 obtain ⟨W0, hW0, hF0⟩ := Fm.start (lo := 45) h hnk hbm hcur
 obtain ⟨⟨a1, s1⟩, r1⟩ : ∃ q, rowsP st x = q := ⟨_, rfl⟩
 have g1 := grows_rows st x
 rw [r1] at g1
 simp only at g1
 have hli1 : ListIs rRow 1 24 D W0.drew (Value.slice q0 x.length c0) x := hv.mono mRow (fun _ h => h) (hF0.drew.kept.less hDK)
 have C1 : Hid (Calls Tryz.prog 132 #[.agg #[.iface t (.pointer (some ⟨p, 0, none⟩))], Value.slice q0 x.length c0, .int .u64 512, .func (.func 133) #[.agg #[.iface t (.pointer (some ⟨p, 0, none⟩))]] #[]] W0.drew fun e w' => ∃ N1 : Nat → Prop, (∃ q c, e = .returned (.slice q a1.length c) ∧ ListIs rRow 1 24 (fun b => D b ∨ N1 b) w' (.slice q a1.length c) a1) ∧ Fm K (fun b => noB b ∨ N1 b) w t p mb 45 cur [Value.slice q0 x.length c0] w' s1 ∧ Kept (fun b => K b ∨ noB b) W0.drew w') := by
  refine hF0.drew.callN (R := fun N e w' => ∃ q c, e = .returned (.slice q a1.length c) ∧ ListIs rRow 1 24 (fun b => D b ∨ N b) w' (.slice q a1.length c) a1) ?_
  have := rows44 t p _ D W0.drew st (Value.slice q0 x.length c0) x (htb.mono (fun b hb => Or.inl hb) hF0.drew.kept) hF0.drew.port (fun b hb => .inl (hDK b hb)) hli1 (by omega)
  refine this.mono ?_
  rintro e w' ⟨N, v', rfl, h1, h2, h3, h4⟩
  replace h2 : PortIs _ w' t p (rowsP st x).2 := h2
  replace h3 : ListIs rRow 1 24 (fun b => D b ∨ N b) w' v' (rowsP st x).1 := h3
  rw [r1] at h2 h3
  obtain ⟨q, c, rfl, h5⟩ := h3
  exact ⟨N, ⟨q, c, rfl, q, c, rfl, h5⟩, h1, h2, h4⟩
 have cw1 : W0.drew.cell? ⟨w.heap.size, 0, none⟩ = _ := hF0.drew.cell0
 have cc1_0 : W0.drew.cell? ⟨mb, 45, none⟩ = _ := hF0.drew.cell1 (k := 45) (i := 0) rfl rfl
 have HF1 : Hid (Fm K noB w t p mb 45 cur [Value.slice q0 x.length c0] W0 st) := hF0
 clear hF0
 show Calls Tryz.prog 115 #[.agg #[.iface t (.pointer (some ⟨p, 0, none⟩))], .pointer (some ⟨mb, 0, none⟩)] w _
 go_enter Tryz.func115, Tryz.ntmps115
 go_wp2_with fail
 refine viaN (A := fun N1 q c WX => (Fm K (fun b => noB b ∨ N1 b) w t p mb 45 cur [Value.slice q a1.length c] WX s1 ∧ Kept (fun b => K b ∨ noB b) W0 WX) ∧ ListIs rRow 1 24 (fun b => D b ∨ N1 b) WX (.slice q a1.length c) a1) (Q := ?Q1) (fun key => ?a1) ?b1
 case a1 =>
  go_region_with (go_at_call 132; refine C1.out.mono ?_; rintro e w1 ⟨N1, ⟨q1, c1, rfl, hd1⟩, hF1a, hKa1⟩; have x1_0 := hF1a.cell1 (k := 45) (i := 0) rfl rfl; have z1_0 := hF1a.fz1 45; obtain ⟨W1_0, hW1_0, hF1_0, hK1_0⟩ := hF1a.set1 45 0 (Value.slice q1 a1.length c1) rfl (by simp); replace hF1_0 : Fm K (fun b => noB b ∨ N1 b) w t p mb 45 cur [Value.slice q1 a1.length c1] W1_0 s1 := hF1_0)
  all_goals exact key N1 q1 c1 _ ⟨⟨hF1_0, (((Kept.refl _ _).drew.trans hKa1).trans (hK1_0.less (fun b hb => hb.elim Or.inl (fun h => Or.inr (Or.inl h)))))⟩, (ListIs.mono mRow (fun _ h => h) (hK1_0.less (fun b hb => hb.elim (fun h => Or.inl (hDK b h)) (fun h => Or.inr (Or.inr h)))) hd1)⟩
 rintro N1 q1 c1 W1 ⟨⟨hF1b, hK1⟩, hd1⟩
 clear C1 cw1 HF1 hK1 cc1_0
 have HG : Hid (Fm K (fun b => noB b ∨ N1 b) w t p mb 45 cur [Value.slice q1 a1.length c1] W1 s1) := hF1b
 have HE : Hid (rowsP st x = (a1, s1)) := by show _ = _; exact r1
 have Hhd1 : Hid (ListIs rRow 1 24 (fun b => D b ∨ N1 b) W1 (.slice q1 a1.length c1) a1) := hd1
 clear hF1b hd1
 go_wp2_with fail
 go_end0
 obtain ⟨e1, ⟨cur', e2, e3⟩, e4, e5⟩ := HG.out.fin
 first | refine ⟨rfl, (fun b => noB b ∨ N1 b), cur', [Value.slice q1 a1.length c1], e1, e2, rfl, e3, ?_, ?_, e5⟩ | refine ⟨rfl, (fun b => noB b ∨ N1 b), e1, cur', e2, [Value.slice q1 a1.length c1], rfl, e3, ?_, ?_, e5⟩
 ·rw [HE.out]; exact ⟨_, rfl, ListIs.mono mRow (fun b hb => hb.elim Or.inl (fun h => Or.inr (Or.inr h))) (Kept.refl _ _) Hhd1.out⟩
 ·rw [HE.out]; exact e4
end Go.Proofs.YtajomnfeicfdlaaGreatDoor
