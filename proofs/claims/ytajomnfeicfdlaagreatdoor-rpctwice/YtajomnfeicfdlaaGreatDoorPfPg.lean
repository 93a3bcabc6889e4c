/- What claim answers. -/
import Derived.Test.YtajomnfeicfdlaaGreatDoorPc
import Derived.Test.YtajomnfeicfdlaaGreatDoorLInts
namespace Go.Proofs.YtajomnfeicfdlaaGreatDoor
open Go.Shelf Go.RowKit Go.Lib
set_option linter.unusedVariables false
set_option linter.unusedSimpArgs false
attribute [local go_sem ↓] Go.wp_at_zero Go.wp_at_succ
theorem ints_part (t p : Nat) : PartC rInts intsP 20 t p 122 #[wk t p] := by
 intro K D w st cs x htb h hDK hrel hl
 obtain ⟨v, rfl, hv⟩ := hrel
 refine (wholes_any t p K D w st v x htb h hDK hv hl).mono ?_
 rintro e w' ⟨N, v', rfl, h1, h2, h3, h4⟩
 exact ⟨N, [v'], rfl, h1, h2, ⟨v', rfl, h3⟩, h4⟩
theorem own67 (t p : Nat) : ListC rInts 1 24 64 intsP [] 20 t p 155 (.func (.func 122) #[wk t p] #[]) :=
 list67_any intsP [] 64 20 t p 122 (wk t p) (by omega) (by omega) grows_ints e34 (ints_part t p)
theorem grows_own : Grows (listP 64 intsP []) 30 := grows_list _ _ grows_ints
set_option maxRecDepth 100000 in
set_option maxHeartbeats 4000000 in
theorem claim_part (t p : Nat) : PartC rClm clmP 4177 t p 137 #[wk t p] := by
 intro K D w st cs ⟨xt, xc, ⟨xb, xl⟩, xo⟩ htb h hDK hrel hl
 obtain ⟨v0, u0, hcs, hts, hv, ⟨hb1, hl1⟩, hu⟩ := hrel
 simp only at hts hb1 hl1 hv hu
 have hvx := hv
 obtain ⟨q0, c0, hv0, _⟩ := hvx
 subst hv0
 have hux := hu
 obtain ⟨q9, c9, hu0, _⟩ := hux
 subst hu0
 replace hcs : cs = [Value.string xt, Value.slice q0 xc.length c0, Value.int .u64 (xb : Int), Value.int .u64 (xl : Int), Value.slice q9 xo.length c9] := hcs
 subst hcs
 have hmt := m_txt h.isT p
 have egt := e_txt h.isT
 obtain ⟨TF, hTF⟩ : ∃ F, txF t = F := ⟨_, rfl⟩
 rw [hTF] at hmt egt
 have hlt := h.lt
 obtain ⟨W0, hW0, hF0⟩ := Fr.start h 160 #[Value.string xt, Value.slice q0 xc.length c0, Value.int .u64 (xb : Int), Value.int .u64 (xl : Int), Value.slice q9 xo.length c9] #[Value.string ⟨#[]⟩, Value.slice none 0 0, Value.int .u64 0, Value.int .u64 0, Value.slice none 0 0]
 have HR : Hid (∀ q, clmP st ⟨xt, xc, ⟨xb, xl⟩, xo⟩ = q → clmP st ⟨xt, xc, ⟨xb, xl⟩, xo⟩ = q) := fun q h => h
 obtain ⟨⟨a1, s1⟩, r1⟩ : ∃ q, txtP st xt = q := ⟨_, rfl⟩
 have g1 := grows_txt st xt
 rw [r1] at g1
 simp only at g1
 have n1 : small a1 := by have := txtP_small st xt (by assumption); rw [r1] at this; exact this
 have C1 : Hid (Calls Tryz.prog TF #[.pointer (some ⟨p, 0, none⟩), .string xt] W0 fun e w' => e = .returned (.string a1) ∧ Fr K noB w t p 160 #[Value.string xt, Value.slice q0 xc.length c0, Value.int .u64 (xb : Int), Value.int .u64 (xl : Int), Value.slice q9 xo.length c9] #[Value.string ⟨#[]⟩, Value.slice none 0 0, Value.int .u64 0, Value.int .u64 0, Value.slice none 0 0] w' s1 ∧ Kept (fun b => K b ∨ noB b) W0 w') := by
  refine hF0.call (R := fun e => e = .returned (.string a1)) ?_
  have := txt_any _ t p st xt W0 hF0.port (by first | assumption | omega) (by omega)
  rw [r1, hTF] at this
  exact this
 have cw1 := hF0.cell0
 have cc1 := hF0.cell1 (k := 0) rfl
 have HF1 : Hid (Fr K noB w t p 160 #[Value.string xt, Value.slice q0 xc.length c0, Value.int .u64 (xb : Int), Value.int .u64 (xl : Int), Value.slice q9 xo.length c9] #[Value.string ⟨#[]⟩, Value.slice none 0 0, Value.int .u64 0, Value.int .u64 0, Value.slice none 0 0] W0 st) := hF0
 clear hF0
 show Calls Tryz.prog 137 #[.agg #[.iface t (.pointer (some ⟨p, 0, none⟩))], .agg #[Value.string xt, Value.slice q0 xc.length c0, Value.int .u64 (xb : Int), Value.int .u64 (xl : Int), Value.slice q9 xo.length c9]] w _
 go_enter Tryz.func137, Tryz.ntmps137
 go_wp2_with fail
 refine C1.out.mono ?_
 rintro e w1 ⟨rfl, hF1a, hKa1⟩
 have x1 := hF1a.cell1 (k := 0) rfl
 have z1 := hF1a.fz1 0
 obtain ⟨W1, hW1, hF1b, hKb1⟩ := hF1a.set1 0 (.string a1)
 replace hF1b : Fr K noB w t p 160 #[Value.string a1, Value.slice q0 xc.length c0, Value.int .u64 (xb : Int), Value.int .u64 (xl : Int), Value.slice q9 xo.length c9] #[Value.string ⟨#[]⟩, Value.slice none 0 0, Value.int .u64 0, Value.int .u64 0, Value.slice none 0 0] W1 s1 := hF1b
 clear C1 cw1 cc1 HF1 hF1a
 obtain ⟨⟨a2, s2⟩, r2⟩ : ∃ q, clsP s1 xc = q := ⟨_, rfl⟩
 have g2 := grows_cls s1 xc
 rw [r2] at g2
 simp only at g2
 have hli2 : ListIs rCl 2 24 D W1 (Value.slice q0 xc.length c0) xc := hv.mono mCl (fun _ h => h) (hF1b.kept.less hDK)
 have C2 : Hid (Calls Tryz.prog 135 #[.agg #[.iface t (.pointer (some ⟨p, 0, none⟩))], Value.slice q0 xc.length c0] W1 fun e w' => ∃ N2 : Nat → Prop, (∃ q c, e = .returned (.slice q a2.length c) ∧ ListIs rCl 2 24 (fun b => D b ∨ N2 b) w' (.slice q a2.length c) a2) ∧ Fr K (fun b => noB b ∨ N2 b) w t p 160 #[Value.string a1, Value.slice q0 xc.length c0, Value.int .u64 (xb : Int), Value.int .u64 (xl : Int), Value.slice q9 xo.length c9] #[Value.string ⟨#[]⟩, Value.slice none 0 0, Value.int .u64 0, Value.int .u64 0, Value.slice none 0 0] w' s2 ∧ Kept (fun b => K b ∨ noB b) W1 w') := by
  refine hF1b.callN (R := fun N e w' => ∃ q c, e = .returned (.slice q a2.length c) ∧ ListIs rCl 2 24 (fun b => D b ∨ N b) w' (.slice q a2.length c) a2) ?_
  have := columns_any t p _ D W1 s1 (Value.slice q0 xc.length c0) xc (htb.mono (fun b hb => Or.inl hb) hF1b.kept) hF1b.port (fun b hb => .inl (hDK b hb)) hli2 (by omega)
  refine this.mono ?_
  rintro e w' ⟨N, v', rfl, h1, h2, h3, h4⟩
  replace h2 : PortIs _ w' t p (clsP s1 xc).2 := h2
  replace h3 : ListIs rCl 2 24 (fun b => D b ∨ N b) w' v' (clsP s1 xc).1 := h3
  rw [r2] at h2 h3
  obtain ⟨q, c, rfl, h5⟩ := h3
  exact ⟨N, ⟨q, c, rfl, q, c, rfl, h5⟩, h1, h2, h4⟩
 have cw2 := hF1b.cell0
 have cc2 := hF1b.cell1 (k := 1) rfl
 have HF2 : Hid (Fr K noB w t p 160 #[Value.string a1, Value.slice q0 xc.length c0, Value.int .u64 (xb : Int), Value.int .u64 (xl : Int), Value.slice q9 xo.length c9] #[Value.string ⟨#[]⟩, Value.slice none 0 0, Value.int .u64 0, Value.int .u64 0, Value.slice none 0 0] W1 s1) := hF1b
 clear hF1b
 go_wp2_with fail
 refine C2.out.mono ?_
 rintro e w2 ⟨N2, ⟨q2, c2, rfl, hd2⟩, hF2a, hKa2⟩
 have x2 := hF2a.cell1 (k := 1) rfl
 have z2 := hF2a.fz1 1
 obtain ⟨W2, hW2, hF2b, hKb2⟩ := hF2a.set1 1 (.slice q2 a2.length c2)
 replace hF2b : Fr K (fun b => noB b ∨ N2 b) w t p 160 #[Value.string a1, Value.slice q2 a2.length c2, Value.int .u64 (xb : Int), Value.int .u64 (xl : Int), Value.slice q9 xo.length c9] #[Value.string ⟨#[]⟩, Value.slice none 0 0, Value.int .u64 0, Value.int .u64 0, Value.slice none 0 0] W2 s2 := hF2b
 replace hd2 : ListIs rCl 2 24 (fun b => D b ∨ N2 b) W2 (.slice q2 a2.length c2) a2 := ListIs.mono mCl (fun _ h => h) (hKb2.less (fun b hb => hb.elim (fun h => Or.inl (hDK b h)) (fun h => Or.inr (Or.inr h)))) hd2
 clear C2 cw2 cc2 HF2 hF2a
 obtain ⟨⟨⟨a3, b3⟩, s3⟩, r3⟩ : ∃ q, vrsP s2 ⟨xb, xl⟩ = q := ⟨_, rfl⟩
 have g3 := grows_vrs s2 ⟨xb, xl⟩
 rw [r3] at g3
 simp only at g3
 have n3 : a3 < 18446744073709551616 ∧ b3 < 18446744073709551616 := by have := vrsP_ok s2 ⟨xb, xl⟩ ⟨by assumption, by assumption⟩; rw [r3] at this; exact this
 obtain ⟨n3a, n3b⟩ := n3
 have C3 : Hid (Calls Tryz.prog 134 #[.agg #[.iface t (.pointer (some ⟨p, 0, none⟩))], .agg #[.int .u64 (xb : Int), .int .u64 (xl : Int)]] W2 fun e w' => e = .returned (.agg #[.int .u64 (a3 : Int), .int .u64 (b3 : Int)]) ∧ Fr K (fun b => noB b ∨ N2 b) w t p 160 #[Value.string a1, Value.slice q2 a2.length c2, Value.int .u64 (xb : Int), Value.int .u64 (xl : Int), Value.slice q9 xo.length c9] #[Value.string ⟨#[]⟩, Value.slice none 0 0, Value.int .u64 0, Value.int .u64 0, Value.slice none 0 0] w' s3 ∧ Kept (fun b => K b ∨ (fun b => noB b ∨ N2 b) b) W2 w') := by
  refine hF2b.call (R := fun e => e = .returned (.agg #[.int .u64 (a3 : Int), .int .u64 (b3 : Int)])) ?_
  have := ver_any _ t p s2 xb xl W2 (htb.mono (fun b hb => Or.inl hb) hF2b.kept) hF2b.port (by assumption) (by assumption) (by omega)
  rw [r3] at this
  exact this
 have cw3 := hF2b.cell0
 have cc3 := hF2b.cell1 (k := 2) rfl
 have cd3 := hF2b.cell1 (k := 3) rfl
 have HF3 : Hid (Fr K (fun b => noB b ∨ N2 b) w t p 160 #[Value.string a1, Value.slice q2 a2.length c2, Value.int .u64 (xb : Int), Value.int .u64 (xl : Int), Value.slice q9 xo.length c9] #[Value.string ⟨#[]⟩, Value.slice none 0 0, Value.int .u64 0, Value.int .u64 0, Value.slice none 0 0] W2 s2) := hF2b
 clear hF2b
 go_wp2_with fail
 refine C3.out.mono ?_
 rintro e w3 ⟨rfl, hF3a, hKa3⟩
 have x3 := hF3a.cell1 (k := 2) rfl
 have z3 := hF3a.fz1 2
 obtain ⟨W3m, hW3m, hF3m, hKm3⟩ := hF3a.set1 2 (.int .u64 (a3 : Int))
 replace hF3m : Fr K (fun b => noB b ∨ N2 b) w t p 160 #[Value.string a1, Value.slice q2 a2.length c2, Value.int .u64 (a3 : Int), Value.int .u64 (xl : Int), Value.slice q9 xo.length c9] #[Value.string ⟨#[]⟩, Value.slice none 0 0, Value.int .u64 0, Value.int .u64 0, Value.slice none 0 0] W3m s3 := hF3m
 have y3 := hF3m.cell1 (k := 3) rfl
 have zy3 := hF3m.fz1 3
 obtain ⟨W3, hW3, hF3b, hKb3⟩ := hF3m.set1 3 (.int .u64 (b3 : Int))
 replace hF3b : Fr K (fun b => noB b ∨ N2 b) w t p 160 #[Value.string a1, Value.slice q2 a2.length c2, Value.int .u64 (a3 : Int), Value.int .u64 (b3 : Int), Value.slice q9 xo.length c9] #[Value.string ⟨#[]⟩, Value.slice none 0 0, Value.int .u64 0, Value.int .u64 0, Value.slice none 0 0] W3 s3 := hF3b
 replace hd2 : ListIs rCl 2 24 (fun b => D b ∨ N2 b) W3 (.slice q2 a2.length c2) a2 := ListIs.mono mCl (fun _ h => h) ((hKa3.trans (hKm3.trans hKb3)).less (fun b hb => hb.elim (fun h => Or.inl (hDK b h)) (fun h => Or.inr (Or.inr h)))) hd2
 clear C3 cw3 cc3 cd3 HF3 hF3a hF3m
 obtain ⟨⟨a4, s4⟩, r4⟩ : ∃ q, listP 64 intsP [] s3 xo = q := ⟨_, rfl⟩
 have g4 := grows_own s3 xo
 rw [r4] at g4
 simp only at g4
 have hli4 : ListIs rInts 1 24 D W3 (Value.slice q9 xo.length c9) xo := hu.mono mInts (fun _ h => h) (hF3b.kept.less hDK)
 have C4 : Hid (Calls Tryz.prog 155 #[.agg #[.iface t (.pointer (some ⟨p, 0, none⟩))], Value.slice q9 xo.length c9, .int .u64 64, .func (.func 122) #[.agg #[.iface t (.pointer (some ⟨p, 0, none⟩))]] #[]] W3 fun e w' => ∃ N4 : Nat → Prop, (∃ q c, e = .returned (.slice q a4.length c) ∧ ListIs rInts 1 24 (fun b => D b ∨ N4 b) w' (.slice q a4.length c) a4) ∧ Fr K (fun b => (fun b => noB b ∨ N2 b) b ∨ N4 b) w t p 160 #[Value.string a1, Value.slice q2 a2.length c2, Value.int .u64 (a3 : Int), Value.int .u64 (b3 : Int), Value.slice q9 xo.length c9] #[Value.string ⟨#[]⟩, Value.slice none 0 0, Value.int .u64 0, Value.int .u64 0, Value.slice none 0 0] w' s4 ∧ Kept (fun b => K b ∨ (fun b => noB b ∨ N2 b) b) W3 w') := by
  refine hF3b.callN (R := fun N e w' => ∃ q c, e = .returned (.slice q a4.length c) ∧ ListIs rInts 1 24 (fun b => D b ∨ N b) w' (.slice q a4.length c) a4) ?_
  have := own67 t p _ D W3 s3 (Value.slice q9 xo.length c9) xo (htb.mono (fun b hb => Or.inl hb) hF3b.kept) hF3b.port (fun b hb => .inl (hDK b hb)) hli4 (by omega)
  refine this.mono ?_
  rintro e w' ⟨N, v', rfl, h1, h2, h3, h4⟩
  replace h2 : PortIs _ w' t p (listP 64 intsP [] s3 xo).2 := h2
  replace h3 : ListIs rInts 1 24 (fun b => D b ∨ N b) w' v' (listP 64 intsP [] s3 xo).1 := h3
  rw [r4] at h2 h3
  obtain ⟨q, c, rfl, h5⟩ := h3
  exact ⟨N, ⟨q, c, rfl, q, c, rfl, h5⟩, h1, h2, h4⟩
 have cw4 := hF3b.cell0
 have cc4 := hF3b.cell1 (k := 4) rfl
 have HF4 : Hid (Fr K (fun b => noB b ∨ N2 b) w t p 160 #[Value.string a1, Value.slice q2 a2.length c2, Value.int .u64 (a3 : Int), Value.int .u64 (b3 : Int), Value.slice q9 xo.length c9] #[Value.string ⟨#[]⟩, Value.slice none 0 0, Value.int .u64 0, Value.int .u64 0, Value.slice none 0 0] W3 s3) := hF3b
 clear hF3b
 go_wp2_with fail
 refine C4.out.mono ?_
 rintro e w4 ⟨N4, ⟨q4, c4, rfl, hd4⟩, hF4a, hKa4⟩
 have x4 := hF4a.cell1 (k := 4) rfl
 have z4 := hF4a.fz1 4
 obtain ⟨W4, hW4, hF4b, hKb4⟩ := hF4a.set1 4 (.slice q4 a4.length c4)
 replace hF4b : Fr K (fun b => (fun b => noB b ∨ N2 b) b ∨ N4 b) w t p 160 #[Value.string a1, Value.slice q2 a2.length c2, Value.int .u64 (a3 : Int), Value.int .u64 (b3 : Int), Value.slice q4 a4.length c4] #[Value.string ⟨#[]⟩, Value.slice none 0 0, Value.int .u64 0, Value.int .u64 0, Value.slice none 0 0] W4 s4 := hF4b
 replace hd2 : ListIs rCl 2 24 (fun b => D b ∨ N2 b) W4 (.slice q2 a2.length c2) a2 := ListIs.mono mCl (fun _ h => h) ((hKa4.trans (hKb4.less (fun b hb => hb.elim Or.inl (fun h => Or.inr (Or.inl h))))).less (fun b hb => hb.elim (fun h => Or.inl (hDK b h)) (fun h => Or.inr (Or.inr h)))) hd2
 replace hd4 : ListIs rInts 1 24 (fun b => D b ∨ N4 b) W4 (.slice q4 a4.length c4) a4 := ListIs.mono mInts (fun _ h => h) (hKb4.less (fun b hb => hb.elim (fun h => Or.inl (hDK b h)) (fun h => Or.inr (Or.inr h)))) hd4
 clear C4 cw4 cc4 HF4 hF4a
 have qq0 := hF4b.cell1 (k := 0) rfl
 have qq1 := hF4b.cell1 (k := 1) rfl
 have qq2 := hF4b.cell1 (k := 2) rfl
 have qq3 := hF4b.cell1 (k := 3) rfl
 have qq4 := hF4b.cell1 (k := 4) rfl
 have uu0 := hF4b.cell2 (k := 0) rfl
 have vv0 := hF4b.fz2 0
 obtain ⟨V0, hV0, hG0, hL0⟩ := hF4b.set2 0 (Value.string a1)
 replace hG0 : Fr K (fun b => (fun b => noB b ∨ N2 b) b ∨ N4 b) w t p 160 #[Value.string a1, Value.slice q2 a2.length c2, Value.int .u64 (a3 : Int), Value.int .u64 (b3 : Int), Value.slice q4 a4.length c4] #[Value.string a1, Value.slice none 0 0, Value.int .u64 0, Value.int .u64 0, Value.slice none 0 0] V0 s4 := hG0
 replace hd2 : ListIs rCl 2 24 (fun b => D b ∨ N2 b) V0 (.slice q2 a2.length c2) a2 := ListIs.mono mCl (fun _ h => h) (hL0.less (fun b hb => hb.elim (fun h => Or.inl (hDK b h)) (fun h => Or.inr (Or.inl (Or.inr h))))) hd2
 replace hd4 : ListIs rInts 1 24 (fun b => D b ∨ N4 b) V0 (.slice q4 a4.length c4) a4 := ListIs.mono mInts (fun _ h => h) (hL0.less (fun b hb => hb.elim (fun h => Or.inl (hDK b h)) (fun h => Or.inr (Or.inr h)))) hd4
 have uu1 := hG0.cell2 (k := 1) rfl
 have vv1 := hG0.fz2 1
 obtain ⟨V1, hV1, hG1, hL1⟩ := hG0.set2 1 (Value.slice q2 a2.length c2)
 replace hG1 : Fr K (fun b => (fun b => noB b ∨ N2 b) b ∨ N4 b) w t p 160 #[Value.string a1, Value.slice q2 a2.length c2, Value.int .u64 (a3 : Int), Value.int .u64 (b3 : Int), Value.slice q4 a4.length c4] #[Value.string a1, Value.slice q2 a2.length c2, Value.int .u64 0, Value.int .u64 0, Value.slice none 0 0] V1 s4 := hG1
 replace hd2 : ListIs rCl 2 24 (fun b => D b ∨ N2 b) V1 (.slice q2 a2.length c2) a2 := ListIs.mono mCl (fun _ h => h) (hL1.less (fun b hb => hb.elim (fun h => Or.inl (hDK b h)) (fun h => Or.inr (Or.inl (Or.inr h))))) hd2
 replace hd4 : ListIs rInts 1 24 (fun b => D b ∨ N4 b) V1 (.slice q4 a4.length c4) a4 := ListIs.mono mInts (fun _ h => h) (hL1.less (fun b hb => hb.elim (fun h => Or.inl (hDK b h)) (fun h => Or.inr (Or.inr h)))) hd4
 have uu2 := hG1.cell2 (k := 2) rfl
 have vv2 := hG1.fz2 2
 obtain ⟨V2, hV2, hG2, hL2⟩ := hG1.set2 2 (Value.int .u64 (a3 : Int))
 replace hG2 : Fr K (fun b => (fun b => noB b ∨ N2 b) b ∨ N4 b) w t p 160 #[Value.string a1, Value.slice q2 a2.length c2, Value.int .u64 (a3 : Int), Value.int .u64 (b3 : Int), Value.slice q4 a4.length c4] #[Value.string a1, Value.slice q2 a2.length c2, Value.int .u64 (a3 : Int), Value.int .u64 0, Value.slice none 0 0] V2 s4 := hG2
 replace hd2 : ListIs rCl 2 24 (fun b => D b ∨ N2 b) V2 (.slice q2 a2.length c2) a2 := ListIs.mono mCl (fun _ h => h) (hL2.less (fun b hb => hb.elim (fun h => Or.inl (hDK b h)) (fun h => Or.inr (Or.inl (Or.inr h))))) hd2
 replace hd4 : ListIs rInts 1 24 (fun b => D b ∨ N4 b) V2 (.slice q4 a4.length c4) a4 := ListIs.mono mInts (fun _ h => h) (hL2.less (fun b hb => hb.elim (fun h => Or.inl (hDK b h)) (fun h => Or.inr (Or.inr h)))) hd4
 have uu3 := hG2.cell2 (k := 3) rfl
 have vv3 := hG2.fz2 3
 obtain ⟨V3, hV3, hG3, hL3⟩ := hG2.set2 3 (Value.int .u64 (b3 : Int))
 replace hG3 : Fr K (fun b => (fun b => noB b ∨ N2 b) b ∨ N4 b) w t p 160 #[Value.string a1, Value.slice q2 a2.length c2, Value.int .u64 (a3 : Int), Value.int .u64 (b3 : Int), Value.slice q4 a4.length c4] #[Value.string a1, Value.slice q2 a2.length c2, Value.int .u64 (a3 : Int), Value.int .u64 (b3 : Int), Value.slice none 0 0] V3 s4 := hG3
 replace hd2 : ListIs rCl 2 24 (fun b => D b ∨ N2 b) V3 (.slice q2 a2.length c2) a2 := ListIs.mono mCl (fun _ h => h) (hL3.less (fun b hb => hb.elim (fun h => Or.inl (hDK b h)) (fun h => Or.inr (Or.inl (Or.inr h))))) hd2
 replace hd4 : ListIs rInts 1 24 (fun b => D b ∨ N4 b) V3 (.slice q4 a4.length c4) a4 := ListIs.mono mInts (fun _ h => h) (hL3.less (fun b hb => hb.elim (fun h => Or.inl (hDK b h)) (fun h => Or.inr (Or.inr h)))) hd4
 have uu4 := hG3.cell2 (k := 4) rfl
 have vv4 := hG3.fz2 4
 obtain ⟨V4, hV4, hG4, hL4⟩ := hG3.set2 4 (Value.slice q4 a4.length c4)
 replace hG4 : Fr K (fun b => (fun b => noB b ∨ N2 b) b ∨ N4 b) w t p 160 #[Value.string a1, Value.slice q2 a2.length c2, Value.int .u64 (a3 : Int), Value.int .u64 (b3 : Int), Value.slice q4 a4.length c4] #[Value.string a1, Value.slice q2 a2.length c2, Value.int .u64 (a3 : Int), Value.int .u64 (b3 : Int), Value.slice q4 a4.length c4] V4 s4 := hG4
 replace hd2 : ListIs rCl 2 24 (fun b => D b ∨ N2 b) V4 (.slice q2 a2.length c2) a2 := ListIs.mono mCl (fun _ h => h) (hL4.less (fun b hb => hb.elim (fun h => Or.inl (hDK b h)) (fun h => Or.inr (Or.inl (Or.inr h))))) hd2
 replace hd4 : ListIs rInts 1 24 (fun b => D b ∨ N4 b) V4 (.slice q4 a4.length c4) a4 := ListIs.mono mInts (fun _ h => h) (hL4.less (fun b hb => hb.elim (fun h => Or.inl (hDK b h)) (fun h => Or.inr (Or.inr h)))) hd4
 have tt0 := hG4.cell2 (k := 0) rfl
 have tt1 := hG4.cell2 (k := 1) rfl
 have tt2 := hG4.cell2 (k := 2) rfl
 have tt3 := hG4.cell2 (k := 3) rfl
 have tt4 := hG4.cell2 (k := 4) rfl
 have HG : Hid (Fr K (fun b => (fun b => noB b ∨ N2 b) b ∨ N4 b) w t p 160 #[Value.string a1, Value.slice q2 a2.length c2, Value.int .u64 (a3 : Int), Value.int .u64 (b3 : Int), Value.slice q4 a4.length c4] #[Value.string a1, Value.slice q2 a2.length c2, Value.int .u64 (a3 : Int), Value.int .u64 (b3 : Int), Value.slice q4 a4.length c4] V4 s4) := hG4
 have HE : Hid (clmP st ⟨xt, xc, ⟨xb, xl⟩, xo⟩ = (⟨a1, a2, ⟨a3, b3⟩, a4⟩, s4)) := by show _ = _; simp only [clmP, r1, r2, r3, r4]
 have Hhd2 : Hid (ListIs rCl 2 24 (fun b => D b ∨ N2 b) V4 (.slice q2 a2.length c2) a2) := hd2
 have Hhd4 : Hid (ListIs rInts 1 24 (fun b => D b ∨ N4 b) V4 (.slice q4 a4.length c4) a4) := hd4
 clear hG0 hG1 hG2 hG3 hG4 hd2 hd4
 go_wp2_with fail
 refine bodyPost_ret (v := .agg #[Value.string a1, Value.slice q2 a2.length c2, Value.int .u64 (a3 : Int), Value.int .u64 (b3 : Int), Value.slice q4 a4.length c4]) (by simp [results, Tryz.results137, go_sem, tt0, tt1, tt2, tt3, tt4]) rfl ?_
 refine ⟨(fun b => (fun b => noB b ∨ N2 b) b ∨ N4 b), [Value.string a1, Value.slice q2 a2.length c2, Value.int .u64 (a3 : Int), Value.int .u64 (b3 : Int), Value.slice q4 a4.length c4], rfl, HG.out.fin.1, ?_, ?_, HG.out.fin.2.2⟩
 ·rw [HE.out]; exact HG.out.fin.2.1
 ·rw [HE.out]; exact ⟨_, _, rfl, n1, ListIs.mono mCl (fun b hb => hb.elim Or.inl (fun h => Or.inr (Or.inl (Or.inr h)))) (Kept.refl _ _) Hhd2.out, ⟨n3a, n3b⟩, ListIs.mono mInts (fun b hb => hb.elim Or.inl (fun h => Or.inr (Or.inr h))) (Kept.refl _ _) Hhd4.out⟩
end Go.Proofs.YtajomnfeicfdlaaGreatDoor
/- What table answers. -/
namespace Go.Proofs.YtajomnfeicfdlaaGreatDoor
open Go.Shelf Go.RowKit Go.Lib
set_option linter.unusedVariables false
set_option linter.unusedSimpArgs false
attribute [local go_sem ↓] Go.wp_at_zero Go.wp_at_succ
set_option maxRecDepth 100000 in
set_option maxHeartbeats 4000000 in
theorem table_part (t p : Nat) : PartC rTbl tblP 4127 t p 130 #[wk t p] := by
 intro K D w st cs ⟨xn, xc, xr⟩ htb h hDK hrel hl
 obtain ⟨v0, u0, hcs, hts, hv, hu⟩ := hrel
 simp only at hts hv hu
 have hvx := hv
 obtain ⟨q0, c0, hv0, _⟩ := hvx
 subst hv0
 have hux := hu
 obtain ⟨q9, c9, hu0, _⟩ := hux
 subst hu0
 replace hcs : cs = [Value.string xn, Value.slice q0 xc.length c0, Value.slice q9 xr.length c9] := hcs
 subst hcs
 have hmt := m_txt h.isT p
 have egt := e_txt h.isT
 obtain ⟨TF, hTF⟩ : ∃ F, txF t = F := ⟨_, rfl⟩
 rw [hTF] at hmt egt
 have hmf := m_fail h.isT p
 have hlt := h.lt
 obtain ⟨W0, hW0, hF0⟩ := Fr.start h 97 #[Value.string xn, Value.slice q0 xc.length c0, Value.slice q9 xr.length c9] #[Value.string ⟨#[]⟩, Value.slice none 0 0, Value.slice none 0 0]
 have HR : Hid (∀ q, tblP st ⟨xn, xc, xr⟩ = q → tblP st ⟨xn, xc, xr⟩ = q) := fun q h => h
 obtain ⟨⟨a1, s1⟩, r1⟩ : ∃ q, txtP st xn = q := ⟨_, rfl⟩
 have g1 := grows_txt st xn
 rw [r1] at g1
 simp only at g1
 have n1 : small a1 := by have := txtP_small st xn (by assumption); rw [r1] at this; exact this
 have C1 : Hid (Calls Tryz.prog TF #[.pointer (some ⟨p, 0, none⟩), .string xn] W0 fun e w' => e = .returned (.string a1) ∧ Fr K noB w t p 97 #[Value.string xn, Value.slice q0 xc.length c0, Value.slice q9 xr.length c9] #[Value.string ⟨#[]⟩, Value.slice none 0 0, Value.slice none 0 0] w' s1 ∧ Kept (fun b => K b ∨ noB b) W0 w') := by
  refine hF0.call (R := fun e => e = .returned (.string a1)) ?_
  have := txt_any _ t p st xn W0 hF0.port (by first | assumption | omega) (by omega)
  rw [r1, hTF] at this
  exact this
 have cw1 := hF0.cell0
 have cc1 := hF0.cell1 (k := 0) rfl
 have HF1 : Hid (Fr K noB w t p 97 #[Value.string xn, Value.slice q0 xc.length c0, Value.slice q9 xr.length c9] #[Value.string ⟨#[]⟩, Value.slice none 0 0, Value.slice none 0 0] W0 st) := hF0
 clear hF0
 show Calls Tryz.prog 130 #[.agg #[.iface t (.pointer (some ⟨p, 0, none⟩))], .agg #[Value.string xn, Value.slice q0 xc.length c0, Value.slice q9 xr.length c9]] w _
 go_enter Tryz.func130, Tryz.ntmps130
 go_wp2_with fail
 refine C1.out.mono ?_
 rintro e w1 ⟨rfl, hF1a, hKa1⟩
 have x1 := hF1a.cell1 (k := 0) rfl
 have z1 := hF1a.fz1 0
 obtain ⟨W1, hW1, hF1b, hKb1⟩ := hF1a.set1 0 (.string a1)
 replace hF1b : Fr K noB w t p 97 #[Value.string a1, Value.slice q0 xc.length c0, Value.slice q9 xr.length c9] #[Value.string ⟨#[]⟩, Value.slice none 0 0, Value.slice none 0 0] W1 s1 := hF1b
 clear C1 cw1 cc1 HF1 hF1a
 obtain ⟨⟨a2, s2⟩, r2⟩ : ∃ q, clsP s1 xc = q := ⟨_, rfl⟩
 have g2 := grows_cls s1 xc
 rw [r2] at g2
 simp only at g2
 have hli2 : ListIs rCl 2 24 D W1 (Value.slice q0 xc.length c0) xc := hv.mono mCl (fun _ h => h) (hF1b.kept.less hDK)
 have C2 : Hid (Calls Tryz.prog 135 #[.agg #[.iface t (.pointer (some ⟨p, 0, none⟩))], Value.slice q0 xc.length c0] W1 fun e w' => ∃ N2 : Nat → Prop, (∃ q c, e = .returned (.slice q a2.length c) ∧ ListIs rCl 2 24 (fun b => D b ∨ N2 b) w' (.slice q a2.length c) a2) ∧ Fr K (fun b => noB b ∨ N2 b) w t p 97 #[Value.string a1, Value.slice q0 xc.length c0, Value.slice q9 xr.length c9] #[Value.string ⟨#[]⟩, Value.slice none 0 0, Value.slice none 0 0] w' s2 ∧ Kept (fun b => K b ∨ noB b) W1 w') := by
  refine hF1b.callN (R := fun N e w' => ∃ q c, e = .returned (.slice q a2.length c) ∧ ListIs rCl 2 24 (fun b => D b ∨ N b) w' (.slice q a2.length c) a2) ?_
  have := columns_any t p _ D W1 s1 (Value.slice q0 xc.length c0) xc (htb.mono (fun b hb => Or.inl hb) hF1b.kept) hF1b.port (fun b hb => .inl (hDK b hb)) hli2 (by omega)
  refine this.mono ?_
  rintro e w' ⟨N, v', rfl, h1, h2, h3, h4⟩
  replace h2 : PortIs _ w' t p (clsP s1 xc).2 := h2
  replace h3 : ListIs rCl 2 24 (fun b => D b ∨ N b) w' v' (clsP s1 xc).1 := h3
  rw [r2] at h2 h3
  obtain ⟨q, c, rfl, h5⟩ := h3
  exact ⟨N, ⟨q, c, rfl, q, c, rfl, h5⟩, h1, h2, h4⟩
 have cw2 := hF1b.cell0
 have cc2 := hF1b.cell1 (k := 1) rfl
 have HF2 : Hid (Fr K noB w t p 97 #[Value.string a1, Value.slice q0 xc.length c0, Value.slice q9 xr.length c9] #[Value.string ⟨#[]⟩, Value.slice none 0 0, Value.slice none 0 0] W1 s1) := hF1b
 clear hF1b
 go_wp2_with fail
 refine C2.out.mono ?_
 rintro e w2 ⟨N2, ⟨q2, c2, rfl, hd2⟩, hF2a, hKa2⟩
 have x2 := hF2a.cell1 (k := 1) rfl
 have z2 := hF2a.fz1 1
 obtain ⟨W2, hW2, hF2b, hKb2⟩ := hF2a.set1 1 (.slice q2 a2.length c2)
 replace hF2b : Fr K (fun b => noB b ∨ N2 b) w t p 97 #[Value.string a1, Value.slice q2 a2.length c2, Value.slice q9 xr.length c9] #[Value.string ⟨#[]⟩, Value.slice none 0 0, Value.slice none 0 0] W2 s2 := hF2b
 replace hd2 : ListIs rCl 2 24 (fun b => D b ∨ N2 b) W2 (.slice q2 a2.length c2) a2 := ListIs.mono mCl (fun _ h => h) (hKb2.less (fun b hb => hb.elim (fun h => Or.inl (hDK b h)) (fun h => Or.inr (Or.inr h)))) hd2
 clear C2 cw2 cc2 HF2 hF2a
 by_cases hr : 0 < xr.length
 ·have z9 : (0 : Int) < (xr.length : Int) := by omega
  have C9 : Hid (Calls Tryz.prog 182 #[.pointer (some ⟨p, 0, none⟩)] W2 fun e w' => e = .returned (.tuple #[]) ∧ Fr K (fun b => noB b ∨ N2 b) w t p 97 #[Value.string a1, Value.slice q2 a2.length c2, Value.slice q9 xr.length c9] #[Value.string ⟨#[]⟩, Value.slice none 0 0, Value.slice none 0 0] w' (failP s2) ∧ Kept (fun b => K b ∨ (fun b => noB b ∨ N2 b) b) W2 w') := by
   refine hF2b.call (R := fun e => e = .returned (.tuple #[])) ?_
   exact fail_any _ t p s2 W2 hF2b.port
  have cw9 := hF2b.cell0
  have cx9 := hF2b.cell1 (k := 2) rfl
  clear hF2b
  go_wp2_with fail
  refine C9.out.mono ?_
  rintro e w9 ⟨rfl, hF9, hK9⟩
  replace hd2 : ListIs rCl 2 24 (fun b => D b ∨ N2 b) w9 (.slice q2 a2.length c2) a2 := ListIs.mono mCl (fun _ h => h) (hK9.less (fun b hb => hb.elim (fun h => Or.inl (hDK b h)) (fun h => Or.inr (Or.inr h)))) hd2
  clear C9
  have qq0 := hF9.cell1 (k := 0) rfl
  have qq1 := hF9.cell1 (k := 1) rfl
  have qq2 := hF9.cell1 (k := 2) rfl
  have uu0 := hF9.cell2 (k := 0) rfl
  have vv0 := hF9.fz2 0
  obtain ⟨V0, hV0, hG0, hL0⟩ := hF9.set2 0 (Value.string a1)
  replace hG0 : Fr K (fun b => noB b ∨ N2 b) w t p 97 #[Value.string a1, Value.slice q2 a2.length c2, Value.slice q9 xr.length c9] #[Value.string a1, Value.slice none 0 0, Value.slice none 0 0] V0 (failP s2) := hG0
  replace hd2 : ListIs rCl 2 24 (fun b => D b ∨ N2 b) V0 (.slice q2 a2.length c2) a2 := ListIs.mono mCl (fun _ h => h) (hL0.less (fun b hb => hb.elim (fun h => Or.inl (hDK b h)) (fun h => Or.inr (Or.inr h)))) hd2
  have uu1 := hG0.cell2 (k := 1) rfl
  have vv1 := hG0.fz2 1
  obtain ⟨V1, hV1, hG1, hL1⟩ := hG0.set2 1 (Value.slice q2 a2.length c2)
  replace hG1 : Fr K (fun b => noB b ∨ N2 b) w t p 97 #[Value.string a1, Value.slice q2 a2.length c2, Value.slice q9 xr.length c9] #[Value.string a1, Value.slice q2 a2.length c2, Value.slice none 0 0] V1 (failP s2) := hG1
  replace hd2 : ListIs rCl 2 24 (fun b => D b ∨ N2 b) V1 (.slice q2 a2.length c2) a2 := ListIs.mono mCl (fun _ h => h) (hL1.less (fun b hb => hb.elim (fun h => Or.inl (hDK b h)) (fun h => Or.inr (Or.inr h)))) hd2
  have uu2 := hG1.cell2 (k := 2) rfl
  have vv2 := hG1.fz2 2
  obtain ⟨V2, hV2, hG2, hL2⟩ := hG1.set2 2 (Value.slice q9 xr.length c9)
  replace hG2 : Fr K (fun b => noB b ∨ N2 b) w t p 97 #[Value.string a1, Value.slice q2 a2.length c2, Value.slice q9 xr.length c9] #[Value.string a1, Value.slice q2 a2.length c2, Value.slice q9 xr.length c9] V2 (failP s2) := hG2
  replace hd2 : ListIs rCl 2 24 (fun b => D b ∨ N2 b) V2 (.slice q2 a2.length c2) a2 := ListIs.mono mCl (fun _ h => h) (hL2.less (fun b hb => hb.elim (fun h => Or.inl (hDK b h)) (fun h => Or.inr (Or.inr h)))) hd2
  have tt0 := hG2.cell2 (k := 0) rfl
  have tt1 := hG2.cell2 (k := 1) rfl
  have tt2 := hG2.cell2 (k := 2) rfl
  have HG : Hid (Fr K (fun b => noB b ∨ N2 b) w t p 97 #[Value.string a1, Value.slice q2 a2.length c2, Value.slice q9 xr.length c9] #[Value.string a1, Value.slice q2 a2.length c2, Value.slice q9 xr.length c9] V2 (failP s2)) := hG2
  have HE : Hid (tblP st ⟨xn, xc, xr⟩ = (⟨a1, a2, xr⟩, (failP s2))) := by show _ = _; simp only [tblP, r1, r2]; rw [if_pos hr]
  have Hhd2 : Hid (ListIs rCl 2 24 (fun b => D b ∨ N2 b) V2 (.slice q2 a2.length c2) a2) := hd2
  clear hG0 hG1 hG2 hd2
  go_wp2_with fail
  refine bodyPost_ret (v := .agg #[Value.string a1, Value.slice q2 a2.length c2, Value.slice q9 xr.length c9]) (by simp [results, Tryz.results130, go_sem, tt0, tt1, tt2]) rfl ?_
  refine ⟨(fun b => noB b ∨ N2 b), [Value.string a1, Value.slice q2 a2.length c2, Value.slice q9 xr.length c9], rfl, HG.out.fin.1, ?_, ?_, HG.out.fin.2.2⟩
  ·rw [HE.out]; exact HG.out.fin.2.1
  ·rw [HE.out]; exact ⟨_, _, rfl, n1, ListIs.mono mCl (fun b hb => hb.elim Or.inl (fun h => Or.inr (Or.inr h))) (Kept.refl _ _) Hhd2.out, hu.mono mRow (fun b hb => Or.inl hb) (HG.out.kept.less hDK)⟩

 ·have z9 : ¬ (0 : Int) < (xr.length : Int) := by omega
  have cx9 := hF2b.cell1 (k := 2) rfl
  have qq0 := hF2b.cell1 (k := 0) rfl
  have qq1 := hF2b.cell1 (k := 1) rfl
  have qq2 := hF2b.cell1 (k := 2) rfl
  have uu0 := hF2b.cell2 (k := 0) rfl
  have vv0 := hF2b.fz2 0
  obtain ⟨V0, hV0, hG0, hL0⟩ := hF2b.set2 0 (Value.string a1)
  replace hG0 : Fr K (fun b => noB b ∨ N2 b) w t p 97 #[Value.string a1, Value.slice q2 a2.length c2, Value.slice q9 xr.length c9] #[Value.string a1, Value.slice none 0 0, Value.slice none 0 0] V0 s2 := hG0
  replace hd2 : ListIs rCl 2 24 (fun b => D b ∨ N2 b) V0 (.slice q2 a2.length c2) a2 := ListIs.mono mCl (fun _ h => h) (hL0.less (fun b hb => hb.elim (fun h => Or.inl (hDK b h)) (fun h => Or.inr (Or.inr h)))) hd2
  have uu1 := hG0.cell2 (k := 1) rfl
  have vv1 := hG0.fz2 1
  obtain ⟨V1, hV1, hG1, hL1⟩ := hG0.set2 1 (Value.slice q2 a2.length c2)
  replace hG1 : Fr K (fun b => noB b ∨ N2 b) w t p 97 #[Value.string a1, Value.slice q2 a2.length c2, Value.slice q9 xr.length c9] #[Value.string a1, Value.slice q2 a2.length c2, Value.slice none 0 0] V1 s2 := hG1
  replace hd2 : ListIs rCl 2 24 (fun b => D b ∨ N2 b) V1 (.slice q2 a2.length c2) a2 := ListIs.mono mCl (fun _ h => h) (hL1.less (fun b hb => hb.elim (fun h => Or.inl (hDK b h)) (fun h => Or.inr (Or.inr h)))) hd2
  have uu2 := hG1.cell2 (k := 2) rfl
  have vv2 := hG1.fz2 2
  obtain ⟨V2, hV2, hG2, hL2⟩ := hG1.set2 2 (Value.slice q9 xr.length c9)
  replace hG2 : Fr K (fun b => noB b ∨ N2 b) w t p 97 #[Value.string a1, Value.slice q2 a2.length c2, Value.slice q9 xr.length c9] #[Value.string a1, Value.slice q2 a2.length c2, Value.slice q9 xr.length c9] V2 s2 := hG2
  replace hd2 : ListIs rCl 2 24 (fun b => D b ∨ N2 b) V2 (.slice q2 a2.length c2) a2 := ListIs.mono mCl (fun _ h => h) (hL2.less (fun b hb => hb.elim (fun h => Or.inl (hDK b h)) (fun h => Or.inr (Or.inr h)))) hd2
  have tt0 := hG2.cell2 (k := 0) rfl
  have tt1 := hG2.cell2 (k := 1) rfl
  have tt2 := hG2.cell2 (k := 2) rfl
  have HG : Hid (Fr K (fun b => noB b ∨ N2 b) w t p 97 #[Value.string a1, Value.slice q2 a2.length c2, Value.slice q9 xr.length c9] #[Value.string a1, Value.slice q2 a2.length c2, Value.slice q9 xr.length c9] V2 s2) := hG2
  have HE : Hid (tblP st ⟨xn, xc, xr⟩ = (⟨a1, a2, xr⟩, s2)) := by show _ = _; simp only [tblP, r1, r2]; rw [if_neg hr]
  have Hhd2 : Hid (ListIs rCl 2 24 (fun b => D b ∨ N2 b) V2 (.slice q2 a2.length c2) a2) := hd2
  clear hG0 hG1 hG2 hd2
  go_wp2_with fail
  refine bodyPost_ret (v := .agg #[Value.string a1, Value.slice q2 a2.length c2, Value.slice q9 xr.length c9]) (by simp [results, Tryz.results130, go_sem, tt0, tt1, tt2]) rfl ?_
  refine ⟨(fun b => noB b ∨ N2 b), [Value.string a1, Value.slice q2 a2.length c2, Value.slice q9 xr.length c9], rfl, HG.out.fin.1, ?_, ?_, HG.out.fin.2.2⟩
  ·rw [HE.out]; exact HG.out.fin.2.1
  ·rw [HE.out]; exact ⟨_, _, rfl, n1, ListIs.mono mCl (fun b hb => hb.elim Or.inl (fun h => Or.inr (Or.inr h))) (Kept.refl _ _) Hhd2.out, hu.mono mRow (fun b hb => Or.inl hb) (HG.out.kept.less hDK)⟩
end Go.Proofs.YtajomnfeicfdlaaGreatDoor
