/- What step answers. -/
import Derived.Test.YtajomnfeicfdlaaGreatDoorWnWoWp
namespace Go.Proofs.YtajomnfeicfdlaaGreatDoor
open Go.Shelf Go.RowKit Go.Lib
set_option linter.unusedVariables false
set_option linter.unusedSimpArgs false
attribute [local go_sem ↓] Go.wp_at_zero Go.wp_at_succ
set_option maxRecDepth 100000 in
set_option maxHeartbeats 4000000 in
theorem step_part (t p : Nat) : PartC rStp stpP 2069 t p 140 #[wk t p] := by
 intro K D w st cs ⟨xk, xt, xn⟩ htb h hDK hrel hl
 obtain ⟨hcs, hk, hts, hni⟩ := hrel
 simp only at hk hts hni
 replace hcs : cs = [Value.int .u8 (xk : Int), Value.string xt, Value.int .i64 xn] := hcs
 subst hcs
 have hmt := m_txt h.isT p
 have egt := e_txt h.isT
 obtain ⟨TF, hTF⟩ : ∃ F, txF t = F := ⟨_, rfl⟩
 rw [hTF] at hmt egt
 have hlt := h.lt
 obtain ⟨W0, hW0, hF0⟩ := Fr.start h 137 #[Value.int .u8 (xk : Int), Value.string xt, Value.int .i64 xn] #[Value.int .u8 0, Value.string ⟨#[]⟩, Value.int .i64 0]
 have HR : Hid (∀ q, stpP st ⟨xk, xt, xn⟩ = q → stpP st ⟨xk, xt, xn⟩ = q) := fun q h => h
 obtain ⟨⟨a1, s1⟩, r1⟩ : ∃ q, octP st xk = q := ⟨_, rfl⟩
 have g1 := grows_oct st xk
 rw [r1] at g1
 simp only at g1
 have n1 : a1 < 256 := by have := octP_lt st xk (by first | assumption | omega); rw [r1] at this; exact this
 have C1 : Hid (Calls Tryz.prog 157 #[.agg #[.iface t (.pointer (some ⟨p, 0, none⟩))], .int .u8 (xk : Int)] W0 fun e w' => e = .returned (.int .u8 (a1 : Int)) ∧ Fr K noB w t p 137 #[Value.int .u8 (xk : Int), Value.string xt, Value.int .i64 xn] #[Value.int .u8 0, Value.string ⟨#[]⟩, Value.int .i64 0] w' s1 ∧ Kept (fun b => K b ∨ noB b) W0 w') := by
  refine hF0.call (R := fun e => e = .returned (.int .u8 (a1 : Int))) ?_
  have := kind69_any _ t p st xk W0 hF0.port (by first | assumption | omega) (by omega)
  rw [r1] at this
  exact this
 have cw1 := hF0.cell0
 have cc1 := hF0.cell1 (k := 0) rfl
 have HF1 : Hid (Fr K noB w t p 137 #[Value.int .u8 (xk : Int), Value.string xt, Value.int .i64 xn] #[Value.int .u8 0, Value.string ⟨#[]⟩, Value.int .i64 0] W0 st) := hF0
 clear hF0
 show Calls Tryz.prog 140 #[.agg #[.iface t (.pointer (some ⟨p, 0, none⟩))], .agg #[Value.int .u8 (xk : Int), Value.string xt, Value.int .i64 xn]] w _
 go_enter Tryz.func140, Tryz.ntmps140
 go_wp2_with fail
 refine C1.out.mono ?_
 rintro e w1 ⟨rfl, hF1a, hKa1⟩
 have x1 := hF1a.cell1 (k := 0) rfl
 have z1 := hF1a.fz1 0
 obtain ⟨W1, hW1, hF1b, hKb1⟩ := hF1a.set1 0 (.int .u8 (a1 : Int))
 replace hF1b : Fr K noB w t p 137 #[Value.int .u8 (a1 : Int), Value.string xt, Value.int .i64 xn] #[Value.int .u8 0, Value.string ⟨#[]⟩, Value.int .i64 0] W1 s1 := hF1b
 clear C1 cw1 cc1 HF1 hF1a
 obtain ⟨⟨a2, s2⟩, r2⟩ : ∃ q, txtP s1 xt = q := ⟨_, rfl⟩
 have g2 := grows_txt s1 xt
 rw [r2] at g2
 simp only at g2
 have n2 : small a2 := by have := txtP_small s1 xt (by assumption); rw [r2] at this; exact this
 have C2 : Hid (Calls Tryz.prog TF #[.pointer (some ⟨p, 0, none⟩), .string xt] W1 fun e w' => e = .returned (.string a2) ∧ Fr K noB w t p 137 #[Value.int .u8 (a1 : Int), Value.string xt, Value.int .i64 xn] #[Value.int .u8 0, Value.string ⟨#[]⟩, Value.int .i64 0] w' s2 ∧ Kept (fun b => K b ∨ noB b) W1 w') := by
  refine hF1b.call (R := fun e => e = .returned (.string a2)) ?_
  have := txt_any _ t p s1 xt W1 hF1b.port (by first | assumption | omega) (by omega)
  rw [r2, hTF] at this
  exact this
 have cw2 := hF1b.cell0
 have cc2 := hF1b.cell1 (k := 1) rfl
 have HF2 : Hid (Fr K noB w t p 137 #[Value.int .u8 (a1 : Int), Value.string xt, Value.int .i64 xn] #[Value.int .u8 0, Value.string ⟨#[]⟩, Value.int .i64 0] W1 s1) := hF1b
 clear hF1b
 go_wp2_with fail
 refine C2.out.mono ?_
 rintro e w2 ⟨rfl, hF2a, hKa2⟩
 have x2 := hF2a.cell1 (k := 1) rfl
 have z2 := hF2a.fz1 1
 obtain ⟨W2, hW2, hF2b, hKb2⟩ := hF2a.set1 1 (.string a2)
 replace hF2b : Fr K noB w t p 137 #[Value.int .u8 (a1 : Int), Value.string a2, Value.int .i64 xn] #[Value.int .u8 0, Value.string ⟨#[]⟩, Value.int .i64 0] W2 s2 := hF2b
 clear C2 cw2 cc2 HF2 hF2a
 obtain ⟨⟨a3, s3⟩, r3⟩ : ∃ q, longP s2 xn = q := ⟨_, rfl⟩
 have g3 := grows_long s2 xn
 rw [r3] at g3
 simp only at g3
 have n3 : I64 a3 := by have := longP_in s2 xn (by assumption); rw [r3] at this; exact this
 have C3 : Hid (Calls Tryz.prog 138 #[.agg #[.iface t (.pointer (some ⟨p, 0, none⟩))], .int .i64 xn] W2 fun e w' => e = .returned (.int .i64 a3) ∧ Fr K noB w t p 137 #[Value.int .u8 (a1 : Int), Value.string a2, Value.int .i64 xn] #[Value.int .u8 0, Value.string ⟨#[]⟩, Value.int .i64 0] w' s3 ∧ Kept (fun b => K b ∨ noB b) W2 w') := by
  refine hF2b.call (R := fun e => e = .returned (.int .i64 a3)) ?_
  have := long_any _ t p s2 xn W2 hF2b.port (by first | assumption | omega) (by omega)
  rw [r3] at this
  exact this
 have cw3 := hF2b.cell0
 have cc3 := hF2b.cell1 (k := 2) rfl
 have HF3 : Hid (Fr K noB w t p 137 #[Value.int .u8 (a1 : Int), Value.string a2, Value.int .i64 xn] #[Value.int .u8 0, Value.string ⟨#[]⟩, Value.int .i64 0] W2 s2) := hF2b
 clear hF2b
 go_wp2_with fail
 refine C3.out.mono ?_
 rintro e w3 ⟨rfl, hF3a, hKa3⟩
 have x3 := hF3a.cell1 (k := 2) rfl
 have z3 := hF3a.fz1 2
 obtain ⟨W3, hW3, hF3b, hKb3⟩ := hF3a.set1 2 (.int .i64 a3)
 replace hF3b : Fr K noB w t p 137 #[Value.int .u8 (a1 : Int), Value.string a2, Value.int .i64 a3] #[Value.int .u8 0, Value.string ⟨#[]⟩, Value.int .i64 0] W3 s3 := hF3b
 clear C3 cw3 cc3 HF3 hF3a
 have qq0 := hF3b.cell1 (k := 0) rfl
 have qq1 := hF3b.cell1 (k := 1) rfl
 have qq2 := hF3b.cell1 (k := 2) rfl
 have uu0 := hF3b.cell2 (k := 0) rfl
 have vv0 := hF3b.fz2 0
 obtain ⟨V0, hV0, hG0, hL0⟩ := hF3b.set2 0 (Value.int .u8 (a1 : Int))
 replace hG0 : Fr K noB w t p 137 #[Value.int .u8 (a1 : Int), Value.string a2, Value.int .i64 a3] #[Value.int .u8 (a1 : Int), Value.string ⟨#[]⟩, Value.int .i64 0] V0 s3 := hG0
 have uu1 := hG0.cell2 (k := 1) rfl
 have vv1 := hG0.fz2 1
 obtain ⟨V1, hV1, hG1, hL1⟩ := hG0.set2 1 (Value.string a2)
 replace hG1 : Fr K noB w t p 137 #[Value.int .u8 (a1 : Int), Value.string a2, Value.int .i64 a3] #[Value.int .u8 (a1 : Int), Value.string a2, Value.int .i64 0] V1 s3 := hG1
 have uu2 := hG1.cell2 (k := 2) rfl
 have vv2 := hG1.fz2 2
 obtain ⟨V2, hV2, hG2, hL2⟩ := hG1.set2 2 (Value.int .i64 a3)
 replace hG2 : Fr K noB w t p 137 #[Value.int .u8 (a1 : Int), Value.string a2, Value.int .i64 a3] #[Value.int .u8 (a1 : Int), Value.string a2, Value.int .i64 a3] V2 s3 := hG2
 have tt0 := hG2.cell2 (k := 0) rfl
 have tt1 := hG2.cell2 (k := 1) rfl
 have tt2 := hG2.cell2 (k := 2) rfl
 have HG : Hid (Fr K noB w t p 137 #[Value.int .u8 (a1 : Int), Value.string a2, Value.int .i64 a3] #[Value.int .u8 (a1 : Int), Value.string a2, Value.int .i64 a3] V2 s3) := hG2
 have HE : Hid (stpP st ⟨xk, xt, xn⟩ = (⟨a1, a2, a3⟩, s3)) := by show _ = _; simp only [stpP, r1, r2, r3]
 clear hG0 hG1 hG2
 go_wp2_with fail
 refine bodyPost_ret (v := .agg #[Value.int .u8 (a1 : Int), Value.string a2, Value.int .i64 a3]) (by simp [results, Tryz.results140, go_sem, tt0, tt1, tt2]) rfl ?_
 refine ⟨noB, [Value.int .u8 (a1 : Int), Value.string a2, Value.int .i64 a3], rfl, HG.out.fin.1, ?_, ?_, HG.out.fin.2.2⟩
 ·rw [HE.out]; exact HG.out.fin.2.1
 ·rw [HE.out]; exact ⟨rfl, n1, n2, n3⟩
end Go.Proofs.YtajomnfeicfdlaaGreatDoor
/- What version and column answers. -/
namespace Go.Proofs.YtajomnfeicfdlaaGreatDoor
open Go.Shelf Go.RowKit Go.Lib
set_option linter.unusedVariables false
set_option linter.unusedSimpArgs false
attribute [local go_sem ↓] Go.wp_at_zero Go.wp_at_succ
theorem vrsP_ok (st : St) (v : Vrs) (h : okV v) : okV (vrsP st v).1 := ⟨numP_lt _ _ h.1, numP_lt _ _ h.2⟩
set_option maxRecDepth 100000 in
set_option maxHeartbeats 4000000 in
theorem ver_part (t p : Nat) : PartC rVrs vrsP 20 t p 134 #[wk t p] := by
 intro K D w st cs ⟨xb, xl⟩ htb h hDK hrel hl
 obtain ⟨hcs, hb1, hl1⟩ := hrel
 simp only at hb1 hl1
 replace hcs : cs = [Value.int .u64 (xb : Int), Value.int .u64 (xl : Int)] := hcs
 subst hcs
 have hmn := m_num h.isT p
 have egn := e_num h.isT
 obtain ⟨NF, hNF⟩ : ∃ F, nuF t = F := ⟨_, rfl⟩
 rw [hNF] at hmn egn
 have hlt := h.lt
 obtain ⟨W0, hW0, hF0⟩ := Fr.start h 40 #[Value.int .u64 (xb : Int), Value.int .u64 (xl : Int)] #[Value.int .u64 0, Value.int .u64 0]
 have HR : Hid (∀ q, vrsP st ⟨xb, xl⟩ = q → vrsP st ⟨xb, xl⟩ = q) := fun q h => h
 obtain ⟨⟨a1, s1⟩, r1⟩ : ∃ q, numP st xb = q := ⟨_, rfl⟩
 have g1 := grows_num st xb
 rw [r1] at g1
 simp only at g1
 have n1 : a1 < 18446744073709551616 := by have := numP_lt st xb (by first | assumption | omega); rw [r1] at this; exact this
 have C1 : Hid (Calls Tryz.prog NF #[.pointer (some ⟨p, 0, none⟩), .int .u64 (xb : Int)] W0 fun e w' => e = .returned (.int .u64 (a1 : Int)) ∧ Fr K noB w t p 40 #[Value.int .u64 (xb : Int), Value.int .u64 (xl : Int)] #[Value.int .u64 0, Value.int .u64 0] w' s1 ∧ Kept (fun b => K b ∨ noB b) W0 w') := by
  refine hF0.call (R := fun e => e = .returned (.int .u64 (a1 : Int))) ?_
  have := num_any _ t p st xb W0 hF0.port (by first | assumption | omega) (by omega)
  rw [r1, hNF] at this
  exact this
 have cw1 := hF0.cell0
 have cc1 := hF0.cell1 (k := 0) rfl
 have HF1 : Hid (Fr K noB w t p 40 #[Value.int .u64 (xb : Int), Value.int .u64 (xl : Int)] #[Value.int .u64 0, Value.int .u64 0] W0 st) := hF0
 clear hF0
 show Calls Tryz.prog 134 #[.agg #[.iface t (.pointer (some ⟨p, 0, none⟩))], .agg #[Value.int .u64 (xb : Int), Value.int .u64 (xl : Int)]] w _
 go_enter Tryz.func134, Tryz.ntmps134
 go_wp2_with fail
 refine C1.out.mono ?_
 rintro e w1 ⟨rfl, hF1a, hKa1⟩
 have x1 := hF1a.cell1 (k := 0) rfl
 have z1 := hF1a.fz1 0
 obtain ⟨W1, hW1, hF1b, hKb1⟩ := hF1a.set1 0 (.int .u64 (a1 : Int))
 replace hF1b : Fr K noB w t p 40 #[Value.int .u64 (a1 : Int), Value.int .u64 (xl : Int)] #[Value.int .u64 0, Value.int .u64 0] W1 s1 := hF1b
 clear C1 cw1 cc1 HF1 hF1a
 obtain ⟨⟨a2, s2⟩, r2⟩ : ∃ q, numP s1 xl = q := ⟨_, rfl⟩
 have g2 := grows_num s1 xl
 rw [r2] at g2
 simp only at g2
 have n2 : a2 < 18446744073709551616 := by have := numP_lt s1 xl (by first | assumption | omega); rw [r2] at this; exact this
 have C2 : Hid (Calls Tryz.prog NF #[.pointer (some ⟨p, 0, none⟩), .int .u64 (xl : Int)] W1 fun e w' => e = .returned (.int .u64 (a2 : Int)) ∧ Fr K noB w t p 40 #[Value.int .u64 (a1 : Int), Value.int .u64 (xl : Int)] #[Value.int .u64 0, Value.int .u64 0] w' s2 ∧ Kept (fun b => K b ∨ noB b) W1 w') := by
  refine hF1b.call (R := fun e => e = .returned (.int .u64 (a2 : Int))) ?_
  have := num_any _ t p s1 xl W1 hF1b.port (by first | assumption | omega) (by omega)
  rw [r2, hNF] at this
  exact this
 have cw2 := hF1b.cell0
 have cc2 := hF1b.cell1 (k := 1) rfl
 have HF2 : Hid (Fr K noB w t p 40 #[Value.int .u64 (a1 : Int), Value.int .u64 (xl : Int)] #[Value.int .u64 0, Value.int .u64 0] W1 s1) := hF1b
 clear hF1b
 go_wp2_with fail
 refine C2.out.mono ?_
 rintro e w2 ⟨rfl, hF2a, hKa2⟩
 have x2 := hF2a.cell1 (k := 1) rfl
 have z2 := hF2a.fz1 1
 obtain ⟨W2, hW2, hF2b, hKb2⟩ := hF2a.set1 1 (.int .u64 (a2 : Int))
 replace hF2b : Fr K noB w t p 40 #[Value.int .u64 (a1 : Int), Value.int .u64 (a2 : Int)] #[Value.int .u64 0, Value.int .u64 0] W2 s2 := hF2b
 clear C2 cw2 cc2 HF2 hF2a
 have qq0 := hF2b.cell1 (k := 0) rfl
 have qq1 := hF2b.cell1 (k := 1) rfl
 have uu0 := hF2b.cell2 (k := 0) rfl
 have vv0 := hF2b.fz2 0
 obtain ⟨V0, hV0, hG0, hL0⟩ := hF2b.set2 0 (Value.int .u64 (a1 : Int))
 replace hG0 : Fr K noB w t p 40 #[Value.int .u64 (a1 : Int), Value.int .u64 (a2 : Int)] #[Value.int .u64 (a1 : Int), Value.int .u64 0] V0 s2 := hG0
 have uu1 := hG0.cell2 (k := 1) rfl
 have vv1 := hG0.fz2 1
 obtain ⟨V1, hV1, hG1, hL1⟩ := hG0.set2 1 (Value.int .u64 (a2 : Int))
 replace hG1 : Fr K noB w t p 40 #[Value.int .u64 (a1 : Int), Value.int .u64 (a2 : Int)] #[Value.int .u64 (a1 : Int), Value.int .u64 (a2 : Int)] V1 s2 := hG1
 have tt0 := hG1.cell2 (k := 0) rfl
 have tt1 := hG1.cell2 (k := 1) rfl
 have HG : Hid (Fr K noB w t p 40 #[Value.int .u64 (a1 : Int), Value.int .u64 (a2 : Int)] #[Value.int .u64 (a1 : Int), Value.int .u64 (a2 : Int)] V1 s2) := hG1
 have HE : Hid (vrsP st ⟨xb, xl⟩ = (⟨a1, a2⟩, s2)) := by show _ = _; simp only [vrsP, r1, r2]
 clear hG0 hG1
 go_wp2_with fail
 refine bodyPost_ret (v := .agg #[Value.int .u64 (a1 : Int), Value.int .u64 (a2 : Int)]) (by simp [results, Tryz.results134, go_sem, tt0, tt1]) rfl ?_
 refine ⟨noB, [Value.int .u64 (a1 : Int), Value.int .u64 (a2 : Int)], rfl, HG.out.fin.1, ?_, ?_, HG.out.fin.2.2⟩
 ·rw [HE.out]; exact HG.out.fin.2.1
 ·rw [HE.out]; exact ⟨rfl, n1, n2⟩
theorem ver_any (K : Nat → Prop) (t p : Nat) (st : St) (b l : Nat) (w : World) (htb : Tabs K w) (h : PortIs K w t p st) (hb : b < 18446744073709551616) (hl : l < 18446744073709551616) (hs : max st.len 65536 + 20 ≤ 990000) :
  Calls Tryz.prog 134 #[.agg #[.iface t (.pointer (some ⟨p, 0, none⟩))], .agg #[.int .u64 (b : Int), .int .u64 (l : Int)]] w fun e w' => e = .returned (.agg #[.int .u64 ((vrsP st ⟨b, l⟩).1.b : Int), .int .u64 ((vrsP st ⟨b, l⟩).1.l : Int)]) ∧ PortIs K w' t p (vrsP st ⟨b, l⟩).2 ∧ Kept K w w' := by
 refine (ver_part t p K noB w st [.int .u64 (b : Int), .int .u64 (l : Int)] ⟨b, l⟩ htb h (fun b hb => hb.elim) ⟨rfl, hb, hl⟩ hs).mono ?_
 rintro e w' ⟨N, cs, rfl, h1, h2, ⟨hc, _⟩, h4⟩
 subst hc
 exact ⟨rfl, h2.less fun b hb => .inl hb, h4⟩
set_option maxRecDepth 100000 in
set_option maxHeartbeats 4000000 in
theorem column_part (t p : Nat) : PartC rCl clP 2059 t p 153 #[wk t p] := by
 intro K D w st cs ⟨xn, xk⟩ htb h hDK hrel hl
 obtain ⟨hcs, hts, hk⟩ := hrel
 simp only at hk hts
 replace hcs : cs = [Value.string xn, Value.int .u8 (xk : Int)] := hcs
 subst hcs
 have hmt := m_txt h.isT p
 have egt := e_txt h.isT
 obtain ⟨TF, hTF⟩ : ∃ F, txF t = F := ⟨_, rfl⟩
 rw [hTF] at hmt egt
 have hlt := h.lt
 obtain ⟨W0, hW0, hF0⟩ := Fr.start h 150 #[Value.string xn, Value.int .u8 (xk : Int)] #[Value.string ⟨#[]⟩, Value.int .u8 0]
 have HR : Hid (∀ q, clP st ⟨xn, xk⟩ = q → clP st ⟨xn, xk⟩ = q) := fun q h => h
 obtain ⟨⟨a1, s1⟩, r1⟩ : ∃ q, txtP st xn = q := ⟨_, rfl⟩
 have g1 := grows_txt st xn
 rw [r1] at g1
 simp only at g1
 have n1 : small a1 := by have := txtP_small st xn (by assumption); rw [r1] at this; exact this
 have C1 : Hid (Calls Tryz.prog TF #[.pointer (some ⟨p, 0, none⟩), .string xn] W0 fun e w' => e = .returned (.string a1) ∧ Fr K noB w t p 150 #[Value.string xn, Value.int .u8 (xk : Int)] #[Value.string ⟨#[]⟩, Value.int .u8 0] w' s1 ∧ Kept (fun b => K b ∨ noB b) W0 w') := by
  refine hF0.call (R := fun e => e = .returned (.string a1)) ?_
  have := txt_any _ t p st xn W0 hF0.port (by first | assumption | omega) (by omega)
  rw [r1, hTF] at this
  exact this
 have cw1 := hF0.cell0
 have cc1 := hF0.cell1 (k := 0) rfl
 have HF1 : Hid (Fr K noB w t p 150 #[Value.string xn, Value.int .u8 (xk : Int)] #[Value.string ⟨#[]⟩, Value.int .u8 0] W0 st) := hF0
 clear hF0
 show Calls Tryz.prog 153 #[.agg #[.iface t (.pointer (some ⟨p, 0, none⟩))], .agg #[Value.string xn, Value.int .u8 (xk : Int)]] w _
 go_enter Tryz.func153, Tryz.ntmps153
 go_wp2_with fail
 refine C1.out.mono ?_
 rintro e w1 ⟨rfl, hF1a, hKa1⟩
 have x1 := hF1a.cell1 (k := 0) rfl
 have z1 := hF1a.fz1 0
 obtain ⟨W1, hW1, hF1b, hKb1⟩ := hF1a.set1 0 (.string a1)
 replace hF1b : Fr K noB w t p 150 #[Value.string a1, Value.int .u8 (xk : Int)] #[Value.string ⟨#[]⟩, Value.int .u8 0] W1 s1 := hF1b
 clear C1 cw1 cc1 HF1 hF1a
 obtain ⟨⟨a2, s2⟩, r2⟩ : ∃ q, octP s1 xk = q := ⟨_, rfl⟩
 have g2 := grows_oct s1 xk
 rw [r2] at g2
 simp only at g2
 have n2 : a2 < 256 := by have := octP_lt s1 xk (by first | assumption | omega); rw [r2] at this; exact this
 have C2 : Hid (Calls Tryz.prog 146 #[.agg #[.iface t (.pointer (some ⟨p, 0, none⟩))], .int .u8 (xk : Int)] W1 fun e w' => e = .returned (.int .u8 (a2 : Int)) ∧ Fr K noB w t p 150 #[Value.string a1, Value.int .u8 (xk : Int)] #[Value.string ⟨#[]⟩, Value.int .u8 0] w' s2 ∧ Kept (fun b => K b ∨ noB b) W1 w') := by
  refine hF1b.call (R := fun e => e = .returned (.int .u8 (a2 : Int))) ?_
  have := kind58_any _ t p s1 xk W1 hF1b.port (by first | assumption | omega) (by omega)
  rw [r2] at this
  exact this
 have cw2 := hF1b.cell0
 have cc2 := hF1b.cell1 (k := 1) rfl
 have HF2 : Hid (Fr K noB w t p 150 #[Value.string a1, Value.int .u8 (xk : Int)] #[Value.string ⟨#[]⟩, Value.int .u8 0] W1 s1) := hF1b
 clear hF1b
 go_wp2_with fail
 refine C2.out.mono ?_
 rintro e w2 ⟨rfl, hF2a, hKa2⟩
 have x2 := hF2a.cell1 (k := 1) rfl
 have z2 := hF2a.fz1 1
 obtain ⟨W2, hW2, hF2b, hKb2⟩ := hF2a.set1 1 (.int .u8 (a2 : Int))
 replace hF2b : Fr K noB w t p 150 #[Value.string a1, Value.int .u8 (a2 : Int)] #[Value.string ⟨#[]⟩, Value.int .u8 0] W2 s2 := hF2b
 clear C2 cw2 cc2 HF2 hF2a
 have qq0 := hF2b.cell1 (k := 0) rfl
 have qq1 := hF2b.cell1 (k := 1) rfl
 have uu0 := hF2b.cell2 (k := 0) rfl
 have vv0 := hF2b.fz2 0
 obtain ⟨V0, hV0, hG0, hL0⟩ := hF2b.set2 0 (Value.string a1)
 replace hG0 : Fr K noB w t p 150 #[Value.string a1, Value.int .u8 (a2 : Int)] #[Value.string a1, Value.int .u8 0] V0 s2 := hG0
 have uu1 := hG0.cell2 (k := 1) rfl
 have vv1 := hG0.fz2 1
 obtain ⟨V1, hV1, hG1, hL1⟩ := hG0.set2 1 (Value.int .u8 (a2 : Int))
 replace hG1 : Fr K noB w t p 150 #[Value.string a1, Value.int .u8 (a2 : Int)] #[Value.string a1, Value.int .u8 (a2 : Int)] V1 s2 := hG1
 have tt0 := hG1.cell2 (k := 0) rfl
 have tt1 := hG1.cell2 (k := 1) rfl
 have HG : Hid (Fr K noB w t p 150 #[Value.string a1, Value.int .u8 (a2 : Int)] #[Value.string a1, Value.int .u8 (a2 : Int)] V1 s2) := hG1
 have HE : Hid (clP st ⟨xn, xk⟩ = (⟨a1, a2⟩, s2)) := by show _ = _; simp only [clP, r1, r2]
 clear hG0 hG1
 go_wp2_with fail
 refine bodyPost_ret (v := .agg #[Value.string a1, Value.int .u8 (a2 : Int)]) (by simp [results, Tryz.results153, go_sem, tt0, tt1]) rfl ?_
 refine ⟨noB, [Value.string a1, Value.int .u8 (a2 : Int)], rfl, HG.out.fin.1, ?_, ?_, HG.out.fin.2.2⟩
 ·rw [HE.out]; exact HG.out.fin.2.1
 ·rw [HE.out]; exact ⟨rfl, n1, n2⟩
end Go.Proofs.YtajomnfeicfdlaaGreatDoor
