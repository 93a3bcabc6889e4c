/- What item answers. -/
import Derived.Test.YtajomnfeicfdlaaGreatDoorPc
namespace Go.Proofs.YtajomnfeicfdlaaGreatDoor
open Go.Shelf Go.RowKit Go.Lib
set_option linter.unusedVariables false
set_option linter.unusedSimpArgs false
attribute [local go_sem ↓] Go.wp_at_zero Go.wp_at_succ
set_option maxRecDepth 100000 in
set_option maxHeartbeats 4000000 in
theorem item_part (t p : Nat) : PartC rItm itmP 2080 t p 124 #[wk t p] := by
 intro K D w st cs ⟨xg, xe⟩ htb h hDK hrel hl
 obtain ⟨v0, hcs, hk, hv⟩ := hrel
 simp only at hk hv
 have hvx := hv
 obtain ⟨q0, c0, hv0, _⟩ := hvx
 subst hv0
 replace hcs : cs = [Value.int .u8 (xg : Int), Value.slice q0 xe.length c0] := hcs
 subst hcs
 have hlt := h.lt
 obtain ⟨W0, hW0, hF0⟩ := Fr.start h 142 #[Value.int .u8 (xg : Int), Value.slice q0 xe.length c0] #[Value.int .u8 0, Value.slice none 0 0]
 have HR : Hid (∀ q, itmP st ⟨xg, xe⟩ = q → itmP st ⟨xg, xe⟩ = q) := fun q h => h
 obtain ⟨⟨a1, s1⟩, r1⟩ : ∃ q, octP st xg = q := ⟨_, rfl⟩
 have g1 := grows_oct st xg
 rw [r1] at g1
 simp only at g1
 have n1 : a1 < 256 := by have := octP_lt st xg (by first | assumption | omega); rw [r1] at this; exact this
 have C1 : Hid (Calls Tryz.prog 143 #[.agg #[.iface t (.pointer (some ⟨p, 0, none⟩))], .int .u8 (xg : Int)] W0 fun e w' => e = .returned (.int .u8 (a1 : Int)) ∧ Fr K noB w t p 142 #[Value.int .u8 (xg : Int), Value.slice q0 xe.length c0] #[Value.int .u8 0, Value.slice none 0 0] w' s1 ∧ Kept (fun b => K b ∨ noB b) W0 w') := by
  refine hF0.call (R := fun e => e = .returned (.int .u8 (a1 : Int))) ?_
  have := kind55_any _ t p st xg W0 hF0.port (by first | assumption | omega) (by omega)
  rw [r1] at this
  exact this
 have cw1 := hF0.cell0
 have cc1 := hF0.cell1 (k := 0) rfl
 have HF1 : Hid (Fr K noB w t p 142 #[Value.int .u8 (xg : Int), Value.slice q0 xe.length c0] #[Value.int .u8 0, Value.slice none 0 0] W0 st) := hF0
 clear hF0
 show Calls Tryz.prog 124 #[.agg #[.iface t (.pointer (some ⟨p, 0, none⟩))], .agg #[Value.int .u8 (xg : Int), Value.slice q0 xe.length c0]] w _
 go_enter Tryz.func124, Tryz.ntmps124
 go_wp2_with fail
 refine C1.out.mono ?_
 rintro e w1 ⟨rfl, hF1a, hKa1⟩
 have x1 := hF1a.cell1 (k := 0) rfl
 have z1 := hF1a.fz1 0
 obtain ⟨W1, hW1, hF1b, hKb1⟩ := hF1a.set1 0 (.int .u8 (a1 : Int))
 replace hF1b : Fr K noB w t p 142 #[Value.int .u8 (a1 : Int), Value.slice q0 xe.length c0] #[Value.int .u8 0, Value.slice none 0 0] W1 s1 := hF1b
 clear C1 cw1 cc1 HF1 hF1a
 obtain ⟨⟨a2, s2⟩, r2⟩ : ∃ q, stpsP s1 xe = q := ⟨_, rfl⟩
 have g2 := grows_stps s1 xe
 rw [r2] at g2
 simp only at g2
 have hli2 : ListIs rStp 3 32 D W1 (Value.slice q0 xe.length c0) xe := hv.mono mStp (fun _ h => h) (hF1b.kept.less hDK)
 have C2 : Hid (Calls Tryz.prog 121 #[.agg #[.iface t (.pointer (some ⟨p, 0, none⟩))], Value.slice q0 xe.length c0] W1 fun e w' => ∃ N2 : Nat → Prop, (∃ q c, e = .returned (.slice q a2.length c) ∧ ListIs rStp 3 32 (fun b => D b ∨ N2 b) w' (.slice q a2.length c) a2) ∧ Fr K (fun b => noB b ∨ N2 b) w t p 142 #[Value.int .u8 (a1 : Int), Value.slice q0 xe.length c0] #[Value.int .u8 0, Value.slice none 0 0] w' s2 ∧ Kept (fun b => K b ∨ noB b) W1 w') := by
  refine hF1b.callN (R := fun N e w' => ∃ q c, e = .returned (.slice q a2.length c) ∧ ListIs rStp 3 32 (fun b => D b ∨ N b) w' (.slice q a2.length c) a2) ?_
  have := steps_any t p _ D W1 s1 (Value.slice q0 xe.length c0) xe (htb.mono (fun b hb => Or.inl hb) hF1b.kept) hF1b.port (fun b hb => .inl (hDK b hb)) hli2 (by omega)
  refine this.mono ?_
  rintro e w' ⟨N, v', rfl, h1, h2, h3, h4⟩
  replace h2 : PortIs _ w' t p (stpsP s1 xe).2 := h2
  replace h3 : ListIs rStp 3 32 (fun b => D b ∨ N b) w' v' (stpsP s1 xe).1 := h3
  rw [r2] at h2 h3
  obtain ⟨q, c, rfl, h5⟩ := h3
  exact ⟨N, ⟨q, c, rfl, q, c, rfl, h5⟩, h1, h2, h4⟩
 have cw2 := hF1b.cell0
 have cc2 := hF1b.cell1 (k := 1) rfl
 have HF2 : Hid (Fr K noB w t p 142 #[Value.int .u8 (a1 : Int), Value.slice q0 xe.length c0] #[Value.int .u8 0, Value.slice none 0 0] W1 s1) := hF1b
 clear hF1b
 go_wp2_with fail
 refine C2.out.mono ?_
 rintro e w2 ⟨N2, ⟨q2, c2, rfl, hd2⟩, hF2a, hKa2⟩
 have x2 := hF2a.cell1 (k := 1) rfl
 have z2 := hF2a.fz1 1
 obtain ⟨W2, hW2, hF2b, hKb2⟩ := hF2a.set1 1 (.slice q2 a2.length c2)
 replace hF2b : Fr K (fun b => noB b ∨ N2 b) w t p 142 #[Value.int .u8 (a1 : Int), Value.slice q2 a2.length c2] #[Value.int .u8 0, Value.slice none 0 0] W2 s2 := hF2b
 replace hd2 : ListIs rStp 3 32 (fun b => D b ∨ N2 b) W2 (.slice q2 a2.length c2) a2 := ListIs.mono mStp (fun _ h => h) (hKb2.less (fun b hb => hb.elim (fun h => Or.inl (hDK b h)) (fun h => Or.inr (Or.inr h)))) hd2
 clear C2 cw2 cc2 HF2 hF2a
 have qq0 := hF2b.cell1 (k := 0) rfl
 have qq1 := hF2b.cell1 (k := 1) rfl
 have uu0 := hF2b.cell2 (k := 0) rfl
 have vv0 := hF2b.fz2 0
 obtain ⟨V0, hV0, hG0, hL0⟩ := hF2b.set2 0 (Value.int .u8 (a1 : Int))
 replace hG0 : Fr K (fun b => noB b ∨ N2 b) w t p 142 #[Value.int .u8 (a1 : Int), Value.slice q2 a2.length c2] #[Value.int .u8 (a1 : Int), Value.slice none 0 0] V0 s2 := hG0
 replace hd2 : ListIs rStp 3 32 (fun b => D b ∨ N2 b) V0 (.slice q2 a2.length c2) a2 := ListIs.mono mStp (fun _ h => h) (hL0.less (fun b hb => hb.elim (fun h => Or.inl (hDK b h)) (fun h => Or.inr (Or.inr h)))) hd2
 have uu1 := hG0.cell2 (k := 1) rfl
 have vv1 := hG0.fz2 1
 obtain ⟨V1, hV1, hG1, hL1⟩ := hG0.set2 1 (Value.slice q2 a2.length c2)
 replace hG1 : Fr K (fun b => noB b ∨ N2 b) w t p 142 #[Value.int .u8 (a1 : Int), Value.slice q2 a2.length c2] #[Value.int .u8 (a1 : Int), Value.slice q2 a2.length c2] V1 s2 := hG1
 replace hd2 : ListIs rStp 3 32 (fun b => D b ∨ N2 b) V1 (.slice q2 a2.length c2) a2 := ListIs.mono mStp (fun _ h => h) (hL1.less (fun b hb => hb.elim (fun h => Or.inl (hDK b h)) (fun h => Or.inr (Or.inr h)))) hd2
 have tt0 := hG1.cell2 (k := 0) rfl
 have tt1 := hG1.cell2 (k := 1) rfl
 have HG : Hid (Fr K (fun b => noB b ∨ N2 b) w t p 142 #[Value.int .u8 (a1 : Int), Value.slice q2 a2.length c2] #[Value.int .u8 (a1 : Int), Value.slice q2 a2.length c2] V1 s2) := hG1
 have HE : Hid (itmP st ⟨xg, xe⟩ = (⟨a1, a2⟩, s2)) := by show _ = _; simp only [itmP, r1, r2]
 have Hhd2 : Hid (ListIs rStp 3 32 (fun b => D b ∨ N2 b) V1 (.slice q2 a2.length c2) a2) := hd2
 clear hG0 hG1 hd2
 go_wp2_with fail
 refine bodyPost_ret (v := .agg #[Value.int .u8 (a1 : Int), Value.slice q2 a2.length c2]) (by simp [results, Tryz.results124, go_sem, tt0, tt1]) rfl ?_
 refine ⟨(fun b => noB b ∨ N2 b), [Value.int .u8 (a1 : Int), Value.slice q2 a2.length c2], rfl, HG.out.fin.1, ?_, ?_, HG.out.fin.2.2⟩
 ·rw [HE.out]; exact HG.out.fin.2.1
 ·rw [HE.out]; exact ⟨_, rfl, n1, ListIs.mono mStp (fun b hb => hb.elim Or.inl (fun h => Or.inr (Or.inr h))) (Kept.refl _ _) Hhd2.out⟩
end Go.Proofs.YtajomnfeicfdlaaGreatDoor
