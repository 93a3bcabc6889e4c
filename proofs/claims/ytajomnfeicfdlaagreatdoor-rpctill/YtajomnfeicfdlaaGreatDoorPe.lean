/- What source answers. -/
import Derived.Test.YtajomnfeicfdlaaGreatDoorPc
namespace Go.Proofs.YtajomnfeicfdlaaGreatDoor
open Go.Shelf Go.RowKit Go.Lib
set_option linter.unusedVariables false
set_option linter.unusedSimpArgs false
attribute [local go_sem ↓] Go.wp_at_zero Go.wp_at_succ
set_option maxRecDepth 100000 in
set_option maxHeartbeats 4000000 in
theorem source_part (t p : Nat) : PartC rSr srP 2109 t p 131 #[wk t p] := by
 intro K D w st cs ⟨xk, xt, ⟨xb, xl⟩, xs, xf⟩ htb h hDK hrel hl
 obtain ⟨v0, hcs, hk, hts, ⟨hb1, hl1⟩, hsi, hv⟩ := hrel
 simp only at hk hts hb1 hl1 hsi hv
 have hvx := hv
 obtain ⟨q0, c0, hv0, _⟩ := hvx
 subst hv0
 replace hcs : cs = [Value.int .u8 (xk : Int), Value.string xt, Value.int .u64 (xb : Int), Value.int .u64 (xl : Int), Value.int .i64 xs, Value.slice q0 xf.length c0] := hcs
 subst hcs
 have hmt := m_txt h.isT p
 have egt := e_txt h.isT
 obtain ⟨TF, hTF⟩ : ∃ F, txF t = F := ⟨_, rfl⟩
 rw [hTF] at hmt egt
 have hlt := h.lt
 obtain ⟨W0, hW0, hF0⟩ := Fr.start h 58 #[Value.int .u8 (xk : Int), Value.string xt, Value.int .u64 (xb : Int), Value.int .u64 (xl : Int), Value.int .i64 xs, Value.slice q0 xf.length c0] #[Value.int .u8 0, Value.string ⟨#[]⟩, Value.int .u64 0, Value.int .u64 0, Value.int .i64 0, Value.slice none 0 0]
 have HR : Hid (∀ q, srP st ⟨xk, xt, ⟨xb, xl⟩, xs, xf⟩ = q → srP st ⟨xk, xt, ⟨xb, xl⟩, xs, xf⟩ = q) := fun q h => h
 obtain ⟨⟨a1, s1⟩, r1⟩ : ∃ q, octP st xk = q := ⟨_, rfl⟩
 have g1 := grows_oct st xk
 rw [r1] at g1
 simp only at g1
 have n1 : a1 < 256 := by have := octP_lt st xk (by first | assumption | omega); rw [r1] at this; exact this
 have C1 : Hid (Calls Tryz.prog 148 #[.agg #[.iface t (.pointer (some ⟨p, 0, none⟩))], .int .u8 (xk : Int)] W0 fun e w' => e = .returned (.int .u8 (a1 : Int)) ∧ Fr K noB w t p 58 #[Value.int .u8 (xk : Int), Value.string xt, Value.int .u64 (xb : Int), Value.int .u64 (xl : Int), Value.int .i64 xs, Value.slice q0 xf.length c0] #[Value.int .u8 0, Value.string ⟨#[]⟩, Value.int .u64 0, Value.int .u64 0, Value.int .i64 0, Value.slice none 0 0] w' s1 ∧ Kept (fun b => K b ∨ noB b) W0 w') := by
  refine hF0.call (R := fun e => e = .returned (.int .u8 (a1 : Int))) ?_
  have := kind60_any _ t p st xk W0 hF0.port (by first | assumption | omega) (by omega)
  rw [r1] at this
  exact this
 have cw1 := hF0.cell0
 have cc1 := hF0.cell1 (k := 0) rfl
 have HF1 : Hid (Fr K noB w t p 58 #[Value.int .u8 (xk : Int), Value.string xt, Value.int .u64 (xb : Int), Value.int .u64 (xl : Int), Value.int .i64 xs, Value.slice q0 xf.length c0] #[Value.int .u8 0, Value.string ⟨#[]⟩, Value.int .u64 0, Value.int .u64 0, Value.int .i64 0, Value.slice none 0 0] W0 st) := hF0
 clear hF0
 show Calls Tryz.prog 131 #[.agg #[.iface t (.pointer (some ⟨p, 0, none⟩))], .agg #[Value.int .u8 (xk : Int), Value.string xt, Value.int .u64 (xb : Int), Value.int .u64 (xl : Int), Value.int .i64 xs, Value.slice q0 xf.length c0]] w _
 go_enter Tryz.func131, Tryz.ntmps131
 go_wp2_with fail
 refine C1.out.mono ?_
 rintro e w1 ⟨rfl, hF1a, hKa1⟩
 have x1 := hF1a.cell1 (k := 0) rfl
 have z1 := hF1a.fz1 0
 obtain ⟨W1, hW1, hF1b, hKb1⟩ := hF1a.set1 0 (.int .u8 (a1 : Int))
 replace hF1b : Fr K noB w t p 58 #[Value.int .u8 (a1 : Int), Value.string xt, Value.int .u64 (xb : Int), Value.int .u64 (xl : Int), Value.int .i64 xs, Value.slice q0 xf.length c0] #[Value.int .u8 0, Value.string ⟨#[]⟩, Value.int .u64 0, Value.int .u64 0, Value.int .i64 0, Value.slice none 0 0] W1 s1 := hF1b
 clear C1 cw1 cc1 HF1 hF1a
 obtain ⟨⟨a2, s2⟩, r2⟩ : ∃ q, txtP s1 xt = q := ⟨_, rfl⟩
 have g2 := grows_txt s1 xt
 rw [r2] at g2
 simp only at g2
 have n2 : small a2 := by have := txtP_small s1 xt (by assumption); rw [r2] at this; exact this
 have C2 : Hid (Calls Tryz.prog TF #[.pointer (some ⟨p, 0, none⟩), .string xt] W1 fun e w' => e = .returned (.string a2) ∧ Fr K noB w t p 58 #[Value.int .u8 (a1 : Int), Value.string xt, Value.int .u64 (xb : Int), Value.int .u64 (xl : Int), Value.int .i64 xs, Value.slice q0 xf.length c0] #[Value.int .u8 0, Value.string ⟨#[]⟩, Value.int .u64 0, Value.int .u64 0, Value.int .i64 0, Value.slice none 0 0] w' s2 ∧ Kept (fun b => K b ∨ noB b) W1 w') := by
  refine hF1b.call (R := fun e => e = .returned (.string a2)) ?_
  have := txt_any _ t p s1 xt W1 hF1b.port (by first | assumption | omega) (by omega)
  rw [r2, hTF] at this
  exact this
 have cw2 := hF1b.cell0
 have cc2 := hF1b.cell1 (k := 1) rfl
 have HF2 : Hid (Fr K noB w t p 58 #[Value.int .u8 (a1 : Int), Value.string xt, Value.int .u64 (xb : Int), Value.int .u64 (xl : Int), Value.int .i64 xs, Value.slice q0 xf.length c0] #[Value.int .u8 0, Value.string ⟨#[]⟩, Value.int .u64 0, Value.int .u64 0, Value.int .i64 0, Value.slice none 0 0] W1 s1) := hF1b
 clear hF1b
 go_wp2_with fail
 refine C2.out.mono ?_
 rintro e w2 ⟨rfl, hF2a, hKa2⟩
 have x2 := hF2a.cell1 (k := 1) rfl
 have z2 := hF2a.fz1 1
 obtain ⟨W2, hW2, hF2b, hKb2⟩ := hF2a.set1 1 (.string a2)
 replace hF2b : Fr K noB w t p 58 #[Value.int .u8 (a1 : Int), Value.string a2, Value.int .u64 (xb : Int), Value.int .u64 (xl : Int), Value.int .i64 xs, Value.slice q0 xf.length c0] #[Value.int .u8 0, Value.string ⟨#[]⟩, Value.int .u64 0, Value.int .u64 0, Value.int .i64 0, Value.slice none 0 0] W2 s2 := hF2b
 clear C2 cw2 cc2 HF2 hF2a
 obtain ⟨⟨⟨a3, b3⟩, s3⟩, r3⟩ : ∃ q, vrsP s2 ⟨xb, xl⟩ = q := ⟨_, rfl⟩
 have g3 := grows_vrs s2 ⟨xb, xl⟩
 rw [r3] at g3
 simp only at g3
 have n3 : a3 < 18446744073709551616 ∧ b3 < 18446744073709551616 := by have := vrsP_ok s2 ⟨xb, xl⟩ ⟨by assumption, by assumption⟩; rw [r3] at this; exact this
 obtain ⟨n3a, n3b⟩ := n3
 have C3 : Hid (Calls Tryz.prog 134 #[.agg #[.iface t (.pointer (some ⟨p, 0, none⟩))], .agg #[.int .u64 (xb : Int), .int .u64 (xl : Int)]] W2 fun e w' => e = .returned (.agg #[.int .u64 (a3 : Int), .int .u64 (b3 : Int)]) ∧ Fr K noB w t p 58 #[Value.int .u8 (a1 : Int), Value.string a2, Value.int .u64 (xb : Int), Value.int .u64 (xl : Int), Value.int .i64 xs, Value.slice q0 xf.length c0] #[Value.int .u8 0, Value.string ⟨#[]⟩, Value.int .u64 0, Value.int .u64 0, Value.int .i64 0, Value.slice none 0 0] w' s3 ∧ Kept (fun b => K b ∨ noB b) W2 w') := by
  refine hF2b.call (R := fun e => e = .returned (.agg #[.int .u64 (a3 : Int), .int .u64 (b3 : Int)])) ?_
  have := ver_any _ t p s2 xb xl W2 (htb.mono (fun b hb => Or.inl hb) hF2b.kept) hF2b.port (by assumption) (by assumption) (by omega)
  rw [r3] at this
  exact this
 have cw3 := hF2b.cell0
 have cc3 := hF2b.cell1 (k := 2) rfl
 have cd3 := hF2b.cell1 (k := 3) rfl
 have HF3 : Hid (Fr K noB w t p 58 #[Value.int .u8 (a1 : Int), Value.string a2, Value.int .u64 (xb : Int), Value.int .u64 (xl : Int), Value.int .i64 xs, Value.slice q0 xf.length c0] #[Value.int .u8 0, Value.string ⟨#[]⟩, Value.int .u64 0, Value.int .u64 0, Value.int .i64 0, Value.slice none 0 0] W2 s2) := hF2b
 clear hF2b
 go_wp2_with fail
 refine C3.out.mono ?_
 rintro e w3 ⟨rfl, hF3a, hKa3⟩
 have x3 := hF3a.cell1 (k := 2) rfl
 have z3 := hF3a.fz1 2
 obtain ⟨W3m, hW3m, hF3m, hKm3⟩ := hF3a.set1 2 (.int .u64 (a3 : Int))
 replace hF3m : Fr K noB w t p 58 #[Value.int .u8 (a1 : Int), Value.string a2, Value.int .u64 (a3 : Int), Value.int .u64 (xl : Int), Value.int .i64 xs, Value.slice q0 xf.length c0] #[Value.int .u8 0, Value.string ⟨#[]⟩, Value.int .u64 0, Value.int .u64 0, Value.int .i64 0, Value.slice none 0 0] W3m s3 := hF3m
 have y3 := hF3m.cell1 (k := 3) rfl
 have zy3 := hF3m.fz1 3
 obtain ⟨W3, hW3, hF3b, hKb3⟩ := hF3m.set1 3 (.int .u64 (b3 : Int))
 replace hF3b : Fr K noB w t p 58 #[Value.int .u8 (a1 : Int), Value.string a2, Value.int .u64 (a3 : Int), Value.int .u64 (b3 : Int), Value.int .i64 xs, Value.slice q0 xf.length c0] #[Value.int .u8 0, Value.string ⟨#[]⟩, Value.int .u64 0, Value.int .u64 0, Value.int .i64 0, Value.slice none 0 0] W3 s3 := hF3b
 clear C3 cw3 cc3 cd3 HF3 hF3a hF3m
 obtain ⟨⟨a4, s4⟩, r4⟩ : ∃ q, longP s3 xs = q := ⟨_, rfl⟩
 have g4 := grows_long s3 xs
 rw [r4] at g4
 simp only at g4
 have n4 : I64 a4 := by have := longP_in s3 xs (by assumption); rw [r4] at this; exact this
 have C4 : Hid (Calls Tryz.prog 120 #[.agg #[.iface t (.pointer (some ⟨p, 0, none⟩))], .int .i64 xs] W3 fun e w' => e = .returned (.int .i64 a4) ∧ Fr K noB w t p 58 #[Value.int .u8 (a1 : Int), Value.string a2, Value.int .u64 (a3 : Int), Value.int .u64 (b3 : Int), Value.int .i64 xs, Value.slice q0 xf.length c0] #[Value.int .u8 0, Value.string ⟨#[]⟩, Value.int .u64 0, Value.int .u64 0, Value.int .i64 0, Value.slice none 0 0] w' s4 ∧ Kept (fun b => K b ∨ noB b) W3 w') := by
  refine hF3b.call (R := fun e => e = .returned (.int .i64 a4)) ?_
  have := whole_any _ t p s3 xs W3 hF3b.port (by first | assumption | omega) (by omega)
  rw [r4] at this
  exact this
 have cw4 := hF3b.cell0
 have cc4 := hF3b.cell1 (k := 4) rfl
 have HF4 : Hid (Fr K noB w t p 58 #[Value.int .u8 (a1 : Int), Value.string a2, Value.int .u64 (a3 : Int), Value.int .u64 (b3 : Int), Value.int .i64 xs, Value.slice q0 xf.length c0] #[Value.int .u8 0, Value.string ⟨#[]⟩, Value.int .u64 0, Value.int .u64 0, Value.int .i64 0, Value.slice none 0 0] W3 s3) := hF3b
 clear hF3b
 go_wp2_with fail
 refine C4.out.mono ?_
 rintro e w4 ⟨rfl, hF4a, hKa4⟩
 have x4 := hF4a.cell1 (k := 4) rfl
 have z4 := hF4a.fz1 4
 obtain ⟨W4, hW4, hF4b, hKb4⟩ := hF4a.set1 4 (.int .i64 a4)
 replace hF4b : Fr K noB w t p 58 #[Value.int .u8 (a1 : Int), Value.string a2, Value.int .u64 (a3 : Int), Value.int .u64 (b3 : Int), Value.int .i64 a4, Value.slice q0 xf.length c0] #[Value.int .u8 0, Value.string ⟨#[]⟩, Value.int .u64 0, Value.int .u64 0, Value.int .i64 0, Value.slice none 0 0] W4 s4 := hF4b
 clear C4 cw4 cc4 HF4 hF4a
 obtain ⟨⟨a5, s5⟩, r5⟩ : ∃ q, intsP s4 xf = q := ⟨_, rfl⟩
 have g5 := grows_ints s4 xf
 rw [r5] at g5
 simp only at g5
 have hli5 : ListIs rInt 1 8 D W4 (Value.slice q0 xf.length c0) xf := hv.mono mInt (fun _ h => h) (hF4b.kept.less hDK)
 have C5 : Hid (Calls Tryz.prog 122 #[.agg #[.iface t (.pointer (some ⟨p, 0, none⟩))], Value.slice q0 xf.length c0] W4 fun e w' => ∃ N5 : Nat → Prop, (∃ q c, e = .returned (.slice q a5.length c) ∧ ListIs rInt 1 8 (fun b => D b ∨ N5 b) w' (.slice q a5.length c) a5) ∧ Fr K (fun b => noB b ∨ N5 b) w t p 58 #[Value.int .u8 (a1 : Int), Value.string a2, Value.int .u64 (a3 : Int), Value.int .u64 (b3 : Int), Value.int .i64 a4, Value.slice q0 xf.length c0] #[Value.int .u8 0, Value.string ⟨#[]⟩, Value.int .u64 0, Value.int .u64 0, Value.int .i64 0, Value.slice none 0 0] w' s5 ∧ Kept (fun b => K b ∨ noB b) W4 w') := by
  refine hF4b.callN (R := fun N e w' => ∃ q c, e = .returned (.slice q a5.length c) ∧ ListIs rInt 1 8 (fun b => D b ∨ N b) w' (.slice q a5.length c) a5) ?_
  have := wholes_any t p _ D W4 s4 (Value.slice q0 xf.length c0) xf (htb.mono (fun b hb => Or.inl hb) hF4b.kept) hF4b.port (fun b hb => .inl (hDK b hb)) hli5 (by omega)
  refine this.mono ?_
  rintro e w' ⟨N, v', rfl, h1, h2, h3, h4⟩
  replace h2 : PortIs _ w' t p (intsP s4 xf).2 := h2
  replace h3 : ListIs rInt 1 8 (fun b => D b ∨ N b) w' v' (intsP s4 xf).1 := h3
  rw [r5] at h2 h3
  obtain ⟨q, c, rfl, h5⟩ := h3
  exact ⟨N, ⟨q, c, rfl, q, c, rfl, h5⟩, h1, h2, h4⟩
 have cw5 := hF4b.cell0
 have cc5 := hF4b.cell1 (k := 5) rfl
 have HF5 : Hid (Fr K noB w t p 58 #[Value.int .u8 (a1 : Int), Value.string a2, Value.int .u64 (a3 : Int), Value.int .u64 (b3 : Int), Value.int .i64 a4, Value.slice q0 xf.length c0] #[Value.int .u8 0, Value.string ⟨#[]⟩, Value.int .u64 0, Value.int .u64 0, Value.int .i64 0, Value.slice none 0 0] W4 s4) := hF4b
 clear hF4b
 go_wp2_with fail
 refine C5.out.mono ?_
 rintro e w5 ⟨N5, ⟨q5, c5, rfl, hd5⟩, hF5a, hKa5⟩
 have x5 := hF5a.cell1 (k := 5) rfl
 have z5 := hF5a.fz1 5
 obtain ⟨W5, hW5, hF5b, hKb5⟩ := hF5a.set1 5 (.slice q5 a5.length c5)
 replace hF5b : Fr K (fun b => noB b ∨ N5 b) w t p 58 #[Value.int .u8 (a1 : Int), Value.string a2, Value.int .u64 (a3 : Int), Value.int .u64 (b3 : Int), Value.int .i64 a4, Value.slice q5 a5.length c5] #[Value.int .u8 0, Value.string ⟨#[]⟩, Value.int .u64 0, Value.int .u64 0, Value.int .i64 0, Value.slice none 0 0] W5 s5 := hF5b
 replace hd5 : ListIs rInt 1 8 (fun b => D b ∨ N5 b) W5 (.slice q5 a5.length c5) a5 := ListIs.mono mInt (fun _ h => h) (hKb5.less (fun b hb => hb.elim (fun h => Or.inl (hDK b h)) (fun h => Or.inr (Or.inr h)))) hd5
 clear C5 cw5 cc5 HF5 hF5a
 have qq0 := hF5b.cell1 (k := 0) rfl
 have qq1 := hF5b.cell1 (k := 1) rfl
 have qq2 := hF5b.cell1 (k := 2) rfl
 have qq3 := hF5b.cell1 (k := 3) rfl
 have qq4 := hF5b.cell1 (k := 4) rfl
 have qq5 := hF5b.cell1 (k := 5) rfl
 have uu0 := hF5b.cell2 (k := 0) rfl
 have vv0 := hF5b.fz2 0
 obtain ⟨V0, hV0, hG0, hL0⟩ := hF5b.set2 0 (Value.int .u8 (a1 : Int))
 replace hG0 : Fr K (fun b => noB b ∨ N5 b) w t p 58 #[Value.int .u8 (a1 : Int), Value.string a2, Value.int .u64 (a3 : Int), Value.int .u64 (b3 : Int), Value.int .i64 a4, Value.slice q5 a5.length c5] #[Value.int .u8 (a1 : Int), Value.string ⟨#[]⟩, Value.int .u64 0, Value.int .u64 0, Value.int .i64 0, Value.slice none 0 0] V0 s5 := hG0
 replace hd5 : ListIs rInt 1 8 (fun b => D b ∨ N5 b) V0 (.slice q5 a5.length c5) a5 := ListIs.mono mInt (fun _ h => h) (hL0.less (fun b hb => hb.elim (fun h => Or.inl (hDK b h)) (fun h => Or.inr (Or.inr h)))) hd5
 have uu1 := hG0.cell2 (k := 1) rfl
 have vv1 := hG0.fz2 1
 obtain ⟨V1, hV1, hG1, hL1⟩ := hG0.set2 1 (Value.string a2)
 replace hG1 : Fr K (fun b => noB b ∨ N5 b) w t p 58 #[Value.int .u8 (a1 : Int), Value.string a2, Value.int .u64 (a3 : Int), Value.int .u64 (b3 : Int), Value.int .i64 a4, Value.slice q5 a5.length c5] #[Value.int .u8 (a1 : Int), Value.string a2, Value.int .u64 0, Value.int .u64 0, Value.int .i64 0, Value.slice none 0 0] V1 s5 := hG1
 replace hd5 : ListIs rInt 1 8 (fun b => D b ∨ N5 b) V1 (.slice q5 a5.length c5) a5 := ListIs.mono mInt (fun _ h => h) (hL1.less (fun b hb => hb.elim (fun h => Or.inl (hDK b h)) (fun h => Or.inr (Or.inr h)))) hd5
 have uu2 := hG1.cell2 (k := 2) rfl
 have vv2 := hG1.fz2 2
 obtain ⟨V2, hV2, hG2, hL2⟩ := hG1.set2 2 (Value.int .u64 (a3 : Int))
 replace hG2 : Fr K (fun b => noB b ∨ N5 b) w t p 58 #[Value.int .u8 (a1 : Int), Value.string a2, Value.int .u64 (a3 : Int), Value.int .u64 (b3 : Int), Value.int .i64 a4, Value.slice q5 a5.length c5] #[Value.int .u8 (a1 : Int), Value.string a2, Value.int .u64 (a3 : Int), Value.int .u64 0, Value.int .i64 0, Value.slice none 0 0] V2 s5 := hG2
 replace hd5 : ListIs rInt 1 8 (fun b => D b ∨ N5 b) V2 (.slice q5 a5.length c5) a5 := ListIs.mono mInt (fun _ h => h) (hL2.less (fun b hb => hb.elim (fun h => Or.inl (hDK b h)) (fun h => Or.inr (Or.inr h)))) hd5
 have uu3 := hG2.cell2 (k := 3) rfl
 have vv3 := hG2.fz2 3
 obtain ⟨V3, hV3, hG3, hL3⟩ := hG2.set2 3 (Value.int .u64 (b3 : Int))
 replace hG3 : Fr K (fun b => noB b ∨ N5 b) w t p 58 #[Value.int .u8 (a1 : Int), Value.string a2, Value.int .u64 (a3 : Int), Value.int .u64 (b3 : Int), Value.int .i64 a4, Value.slice q5 a5.length c5] #[Value.int .u8 (a1 : Int), Value.string a2, Value.int .u64 (a3 : Int), Value.int .u64 (b3 : Int), Value.int .i64 0, Value.slice none 0 0] V3 s5 := hG3
 replace hd5 : ListIs rInt 1 8 (fun b => D b ∨ N5 b) V3 (.slice q5 a5.length c5) a5 := ListIs.mono mInt (fun _ h => h) (hL3.less (fun b hb => hb.elim (fun h => Or.inl (hDK b h)) (fun h => Or.inr (Or.inr h)))) hd5
 have uu4 := hG3.cell2 (k := 4) rfl
 have vv4 := hG3.fz2 4
 obtain ⟨V4, hV4, hG4, hL4⟩ := hG3.set2 4 (Value.int .i64 a4)
 replace hG4 : Fr K (fun b => noB b ∨ N5 b) w t p 58 #[Value.int .u8 (a1 : Int), Value.string a2, Value.int .u64 (a3 : Int), Value.int .u64 (b3 : Int), Value.int .i64 a4, Value.slice q5 a5.length c5] #[Value.int .u8 (a1 : Int), Value.string a2, Value.int .u64 (a3 : Int), Value.int .u64 (b3 : Int), Value.int .i64 a4, Value.slice none 0 0] V4 s5 := hG4
 replace hd5 : ListIs rInt 1 8 (fun b => D b ∨ N5 b) V4 (.slice q5 a5.length c5) a5 := ListIs.mono mInt (fun _ h => h) (hL4.less (fun b hb => hb.elim (fun h => Or.inl (hDK b h)) (fun h => Or.inr (Or.inr h)))) hd5
 have uu5 := hG4.cell2 (k := 5) rfl
 have vv5 := hG4.fz2 5
 obtain ⟨V5, hV5, hG5, hL5⟩ := hG4.set2 5 (Value.slice q5 a5.length c5)
 replace hG5 : Fr K (fun b => noB b ∨ N5 b) w t p 58 #[Value.int .u8 (a1 : Int), Value.string a2, Value.int .u64 (a3 : Int), Value.int .u64 (b3 : Int), Value.int .i64 a4, Value.slice q5 a5.length c5] #[Value.int .u8 (a1 : Int), Value.string a2, Value.int .u64 (a3 : Int), Value.int .u64 (b3 : Int), Value.int .i64 a4, Value.slice q5 a5.length c5] V5 s5 := hG5
 replace hd5 : ListIs rInt 1 8 (fun b => D b ∨ N5 b) V5 (.slice q5 a5.length c5) a5 := ListIs.mono mInt (fun _ h => h) (hL5.less (fun b hb => hb.elim (fun h => Or.inl (hDK b h)) (fun h => Or.inr (Or.inr h)))) hd5
 have tt0 := hG5.cell2 (k := 0) rfl
 have tt1 := hG5.cell2 (k := 1) rfl
 have tt2 := hG5.cell2 (k := 2) rfl
 have tt3 := hG5.cell2 (k := 3) rfl
 have tt4 := hG5.cell2 (k := 4) rfl
 have tt5 := hG5.cell2 (k := 5) rfl
 have HG : Hid (Fr K (fun b => noB b ∨ N5 b) w t p 58 #[Value.int .u8 (a1 : Int), Value.string a2, Value.int .u64 (a3 : Int), Value.int .u64 (b3 : Int), Value.int .i64 a4, Value.slice q5 a5.length c5] #[Value.int .u8 (a1 : Int), Value.string a2, Value.int .u64 (a3 : Int), Value.int .u64 (b3 : Int), Value.int .i64 a4, Value.slice q5 a5.length c5] V5 s5) := hG5
 have HE : Hid (srP st ⟨xk, xt, ⟨xb, xl⟩, xs, xf⟩ = (⟨a1, a2, ⟨a3, b3⟩, a4, a5⟩, s5)) := by show _ = _; simp only [srP, r1, r2, r3, r4, r5]
 have Hhd5 : Hid (ListIs rInt 1 8 (fun b => D b ∨ N5 b) V5 (.slice q5 a5.length c5) a5) := hd5
 clear hG0 hG1 hG2 hG3 hG4 hG5 hd5
 go_wp2_with fail
 refine bodyPost_ret (v := .agg #[Value.int .u8 (a1 : Int), Value.string a2, Value.int .u64 (a3 : Int), Value.int .u64 (b3 : Int), Value.int .i64 a4, Value.slice q5 a5.length c5]) (by simp [results, Tryz.results131, go_sem, tt0, tt1, tt2, tt3, tt4, tt5]) rfl ?_
 refine ⟨(fun b => noB b ∨ N5 b), [Value.int .u8 (a1 : Int), Value.string a2, Value.int .u64 (a3 : Int), Value.int .u64 (b3 : Int), Value.int .i64 a4, Value.slice q5 a5.length c5], rfl, HG.out.fin.1, ?_, ?_, HG.out.fin.2.2⟩
 ·rw [HE.out]; exact HG.out.fin.2.1
 ·rw [HE.out]; exact ⟨_, rfl, n1, n2, ⟨n3a, n3b⟩, n4, ListIs.mono mInt (fun b hb => hb.elim Or.inl (fun h => Or.inr (Or.inr h))) (Kept.refl _ _) Hhd5.out⟩
end Go.Proofs.YtajomnfeicfdlaaGreatDoor
