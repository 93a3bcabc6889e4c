/- What value and row answers. -/
import Derived.Test.YtajomnfeicfdlaaGreatDoorWnWoWp
import Derived.Test.YtajomnfeicfdlaaGreatDoorLValLRow
namespace Go.Proofs.YtajomnfeicfdlaaGreatDoor
open Go.Shelf Go.RowKit Go.Lib
set_option linter.unusedVariables false
set_option linter.unusedSimpArgs false
attribute [local go_sem ↓] Go.wp_at_zero Go.wp_at_succ
theorem Fr.below {K N : Nat → Prop} {w W W' : World} {t p E : Nat} {cur res : Array Value} {st : St} (h : Fr K N w t p E cur res W st) (hb : Below W.heap.size W W') : Fr K N w t p E cur res W' st := by
 have k1 : ∀ b, b < W.heap.size → W'.heap[b]? = W.heap[b]? := fun b hb' => hb.block b hb'
 refine ⟨h.kept.trans ⟨hb.os, hb.tape, hb.output, hb.size, fun b hk => k1 b (Nat.lt_of_lt_of_le (h.lt b hk) h.kept.size)⟩, ?_, ?_, ?_, h.port.below hb, h.new, h.lt⟩
 ·rw [k1 _ (Array.getElem?_eq_some_iff.1 h.b0).1]; exact h.b0
 ·rw [k1 _ (Array.getElem?_eq_some_iff.1 h.b1).1]; exact h.b1
 ·rw [k1 _ (Array.getElem?_eq_some_iff.1 h.b2).1]; exact h.b2
set_option maxRecDepth 100000 in
set_option maxHeartbeats 4000000 in
theorem value_part (t p : Nat) : PartC rVal valP 2059 t p 151 #[wk t p] := by
 intro K D w st cs ⟨xk, xb, xn, xt⟩ htb h hDK hrel hl
 obtain ⟨hcs, ⟨hk0, hk⟩, hni, hts⟩ := hrel
 simp only at hk0 hk hni hts
 obtain ⟨kn, rfl⟩ : ∃ kn : Nat, xk = (kn : Int) := ⟨xk.toNat, by omega⟩
 replace hk : kn < 256 := by omega
 replace hcs : cs = [Value.int .u8 (kn : Int), Value.bool xb, Value.int .i64 xn, Value.string xt] := hcs
 subst hcs
 have hmt := m_txt h.isT p
 have egt := e_txt h.isT
 obtain ⟨TF, hTF⟩ : ∃ F, txF t = F := ⟨_, rfl⟩
 rw [hTF] at hmt egt
 have hmf := m_fail h.isT p
 have hlt := h.lt
 obtain ⟨W0, hW0, hF0⟩ := Fr.start h 184 #[Value.int .u8 (kn : Int), Value.bool xb, Value.int .i64 xn, Value.string xt] #[Value.int .u8 0, Value.bool false, Value.int .i64 0, Value.string ⟨#[]⟩]
 have HR : Hid (∀ q, valP st ⟨(kn : Int), xb, xn, xt⟩ = q → valP st ⟨(kn : Int), xb, xn, xt⟩ = q) := fun q h => h
 obtain ⟨⟨a1, s1⟩, r1⟩ : ∃ q, octP st kn = q := ⟨_, rfl⟩
 have g1 := grows_oct st kn
 rw [r1] at g1
 simp only at g1
 have n1 : a1 < 256 := by have := octP_lt st kn (by first | assumption | omega); rw [r1] at this; exact this
 have C1 : Hid (Calls Tryz.prog 146 #[.agg #[.iface t (.pointer (some ⟨p, 0, none⟩))], .int .u8 (kn : Int)] W0 fun e w' => e = .returned (.int .u8 (a1 : Int)) ∧ Fr K noB w t p 184 #[Value.int .u8 (kn : Int), Value.bool xb, Value.int .i64 xn, Value.string xt] #[Value.int .u8 0, Value.bool false, Value.int .i64 0, Value.string ⟨#[]⟩] w' s1 ∧ Kept (fun b => K b ∨ noB b) W0 w') := by
  refine hF0.call (R := fun e => e = .returned (.int .u8 (a1 : Int))) ?_
  have := kind58_any _ t p st kn W0 hF0.port (by first | assumption | omega) (by omega)
  rw [r1] at this
  exact this
 have cw1 := hF0.cell0
 have cc1 := hF0.cell1 (k := 0) rfl
 have HF1 : Hid (Fr K noB w t p 184 #[Value.int .u8 (kn : Int), Value.bool xb, Value.int .i64 xn, Value.string xt] #[Value.int .u8 0, Value.bool false, Value.int .i64 0, Value.string ⟨#[]⟩] W0 st) := hF0
 clear hF0
 show Calls Tryz.prog 151 #[.agg #[.iface t (.pointer (some ⟨p, 0, none⟩))], .agg #[Value.int .u8 (kn : Int), Value.bool xb, Value.int .i64 xn, Value.string xt]] w _
 go_enter Tryz.func151, Tryz.ntmps151
 go_wp2_with fail
 refine C1.out.mono ?_
 rintro e w1 ⟨rfl, hF1a, hKa1⟩
 have x1 := hF1a.cell1 (k := 0) rfl
 have z1 := hF1a.fz1 0
 obtain ⟨W1, hW1, hF1b, hKb1⟩ := hF1a.set1 0 (.int .u8 (a1 : Int))
 replace hF1b : Fr K noB w t p 184 #[Value.int .u8 (a1 : Int), Value.bool xb, Value.int .i64 xn, Value.string xt] #[Value.int .u8 0, Value.bool false, Value.int .i64 0, Value.string ⟨#[]⟩] W1 s1 := hF1b
 clear C1 cw1 cc1 HF1 hF1a
 by_cases h1 : a1 = 1
 ·have ck := hF1b.cell1 (k := 0) rfl
  have y1 : ((a1 : Int) == 1) = true := by simp; omega
  have y2 : ((a1 : Int) == 2) = false := by simp; omega
  have y3 : ((a1 : Int) == 3) = false := by simp; omega
  have Hh1 : Hid (a1 = 1) := h1
  clear h1
  obtain ⟨⟨a2, s2⟩, r2⟩ : ∃ q, flagP s1 xb = q := ⟨_, rfl⟩
  have g2 := grows_flag s1 xb
  rw [r2] at g2
  simp only at g2
  have C2 : Hid (Calls Tryz.prog 125 #[.agg #[.iface t (.pointer (some ⟨p, 0, none⟩))], .bool xb] W1 fun e w' => e = .returned (.bool a2) ∧ Fr K noB w t p 184 #[Value.int .u8 (a1 : Int), Value.bool xb, Value.int .i64 xn, Value.string xt] #[Value.int .u8 0, Value.bool false, Value.int .i64 0, Value.string ⟨#[]⟩] w' s2 ∧ Kept (fun b => K b ∨ noB b) W1 w') := by
   refine hF1b.call (R := fun e => e = .returned (.bool a2)) ?_
   have := flag_any _ t p s1 xb W1 hF1b.port (by omega)
   rw [r2] at this
   exact this
  have cw2 := hF1b.cell0
  have cc2 := hF1b.cell1 (k := 1) rfl
  have HF2 : Hid (Fr K noB w t p 184 #[Value.int .u8 (a1 : Int), Value.bool xb, Value.int .i64 xn, Value.string xt] #[Value.int .u8 0, Value.bool false, Value.int .i64 0, Value.string ⟨#[]⟩] W1 s1) := hF1b
  clear hF1b
  go_wp2_with fail
  refine C2.out.mono ?_
  rintro e w2 ⟨rfl, hF2a, hKa2⟩
  have x2 := hF2a.cell1 (k := 1) rfl
  have z2 := hF2a.fz1 1
  obtain ⟨W2, hW2, hF2b, hKb2⟩ := hF2a.set1 1 (.bool a2)
  replace hF2b : Fr K noB w t p 184 #[Value.int .u8 (a1 : Int), Value.bool a2, Value.int .i64 xn, Value.string xt] #[Value.int .u8 0, Value.bool false, Value.int .i64 0, Value.string ⟨#[]⟩] W2 s2 := hF2b
  clear C2 cw2 cc2 HF2 hF2a
  obtain ⟨E9, hE9⟩ : ∃ E9, chkV (⟨(a1 : Int), a2, xn, xt⟩ : Val) = E9 := ⟨_, rfl⟩
  have C8 : Hid (Calls Tryz.prog 160 #[.agg #[Value.int .u8 (a1 : Int), Value.bool a2, Value.int .i64 xn, Value.string xt]] W2 fun e w' => e = .returned (.int .i64 E9) ∧ Below W2.heap.size W2 w') := by
   have := check_any (⟨(a1 : Int), a2, xn, xt⟩ : Val) W2 (by have hsm : small xt := (by assumption); unfold small at hsm; show ByteArray.size xt ≤ _; omega) (htb.mono (fun _ h => h) hF2b.kept).2.2
   rw [hE9] at this
   exact this
  have e0 := hF2b.cell1 (k := 0) rfl
  have e1 := hF2b.cell1 (k := 1) rfl
  have e2 := hF2b.cell1 (k := 2) rfl
  have e3 := hF2b.cell1 (k := 3) rfl
  have HF8 : Hid (Fr K noB w t p 184 #[Value.int .u8 (a1 : Int), Value.bool a2, Value.int .i64 xn, Value.string xt] #[Value.int .u8 0, Value.bool false, Value.int .i64 0, Value.string ⟨#[]⟩] W2 s2) := hF2b
  clear hF2b
  go_wp2_with fail
  refine C8.out.mono ?_
  rintro e w8 ⟨rfl, hb8⟩
  have hF8 : Fr K noB w t p 184 #[Value.int .u8 (a1 : Int), Value.bool a2, Value.int .i64 xn, Value.string xt] #[Value.int .u8 0, Value.bool false, Value.int .i64 0, Value.string ⟨#[]⟩] w8 s2 := HF8.out.below hb8
  clear C8 hb8 HF8 e0 e1 e2 e3
  have cw8 := hF8.cell0
  have HQ : Hid (valP st ⟨(kn : Int), xb, xn, xt⟩ = (⟨(a1 : Int), a2, xn, xt⟩, if E9 = 0 then s2 else failP s2)) := by
   show _ = _
   simp only [valP, Int.toNat_natCast, r1]
   rw [if_pos Hh1.out, r2]
   rw [hE9]
  by_cases h9 : E9 = 0
  ·have y9 : (E9 != 0) = false := by simp [h9]
   have H9 : Hid (E9 = 0) := h9
   clear h9
   have qq0 := hF8.cell1 (k := 0) rfl
   have qq1 := hF8.cell1 (k := 1) rfl
   have qq2 := hF8.cell1 (k := 2) rfl
   have qq3 := hF8.cell1 (k := 3) rfl
   have uu0 := hF8.cell2 (k := 0) rfl
   have vv0 := hF8.fz2 0
   obtain ⟨V0, hV0, hG0, hL0⟩ := hF8.set2 0 (Value.int .u8 (a1 : Int))
   replace hG0 : Fr K noB w t p 184 #[Value.int .u8 (a1 : Int), Value.bool a2, Value.int .i64 xn, Value.string xt] #[Value.int .u8 (a1 : Int), Value.bool false, Value.int .i64 0, Value.string ⟨#[]⟩] V0 s2 := hG0
   have uu1 := hG0.cell2 (k := 1) rfl
   have vv1 := hG0.fz2 1
   obtain ⟨V1, hV1, hG1, hL1⟩ := hG0.set2 1 (Value.bool a2)
   replace hG1 : Fr K noB w t p 184 #[Value.int .u8 (a1 : Int), Value.bool a2, Value.int .i64 xn, Value.string xt] #[Value.int .u8 (a1 : Int), Value.bool a2, Value.int .i64 0, Value.string ⟨#[]⟩] V1 s2 := hG1
   have uu2 := hG1.cell2 (k := 2) rfl
   have vv2 := hG1.fz2 2
   obtain ⟨V2, hV2, hG2, hL2⟩ := hG1.set2 2 (Value.int .i64 xn)
   replace hG2 : Fr K noB w t p 184 #[Value.int .u8 (a1 : Int), Value.bool a2, Value.int .i64 xn, Value.string xt] #[Value.int .u8 (a1 : Int), Value.bool a2, Value.int .i64 xn, Value.string ⟨#[]⟩] V2 s2 := hG2
   have uu3 := hG2.cell2 (k := 3) rfl
   have vv3 := hG2.fz2 3
   obtain ⟨V3, hV3, hG3, hL3⟩ := hG2.set2 3 (Value.string xt)
   replace hG3 : Fr K noB w t p 184 #[Value.int .u8 (a1 : Int), Value.bool a2, Value.int .i64 xn, Value.string xt] #[Value.int .u8 (a1 : Int), Value.bool a2, Value.int .i64 xn, Value.string xt] V3 s2 := hG3
   have tt0 := hG3.cell2 (k := 0) rfl
   have tt1 := hG3.cell2 (k := 1) rfl
   have tt2 := hG3.cell2 (k := 2) rfl
   have tt3 := hG3.cell2 (k := 3) rfl
   have HG : Hid (Fr K noB w t p 184 #[Value.int .u8 (a1 : Int), Value.bool a2, Value.int .i64 xn, Value.string xt] #[Value.int .u8 (a1 : Int), Value.bool a2, Value.int .i64 xn, Value.string xt] V3 s2) := hG3
   have HE : Hid (valP st ⟨(kn : Int), xb, xn, xt⟩ = (⟨(a1 : Int), a2, xn, xt⟩, s2)) := by show _ = _; rw [HQ.out, if_pos H9.out]
   clear hG0 hG1 hG2 hG3
   go_wp2_with fail
   refine bodyPost_ret (v := .agg #[Value.int .u8 (a1 : Int), Value.bool a2, Value.int .i64 xn, Value.string xt]) (by simp [results, Tryz.results151, go_sem, tt0, tt1, tt2, tt3]) rfl ?_
   refine ⟨noB, [Value.int .u8 (a1 : Int), Value.bool a2, Value.int .i64 xn, Value.string xt], rfl, HG.out.fin.1, ?_, ?_, HG.out.fin.2.2⟩
   ·rw [HE.out]; exact HG.out.fin.2.1
   ·rw [HE.out]; exact ⟨rfl, ⟨by show (0 : Int) ≤ (a1 : Int); omega, by show (a1 : Int) < 256; omega⟩, hni, hts⟩
  ·have y9 : (E9 != 0) = true := by simp [h9]
   have H9 : Hid (¬ E9 = 0) := h9
   clear h9
   have C9 : Hid (Calls Tryz.prog 182 #[.pointer (some ⟨p, 0, none⟩)] w8 fun e w' => e = .returned (.tuple #[]) ∧ Fr K noB w t p 184 #[Value.int .u8 (a1 : Int), Value.bool a2, Value.int .i64 xn, Value.string xt] #[Value.int .u8 0, Value.bool false, Value.int .i64 0, Value.string ⟨#[]⟩] w' (failP s2) ∧ Kept (fun b => K b ∨ noB b) w8 w') := by
    refine hF8.call (R := fun e => e = .returned (.tuple #[])) ?_
    exact fail_any _ t p s2 w8 hF8.port
   clear hF8
   go_wp2_with fail
   refine C9.out.mono ?_
   rintro e w9 ⟨rfl, hF9, hK9⟩
   clear C9
   have qq0 := hF9.cell1 (k := 0) rfl
   have qq1 := hF9.cell1 (k := 1) rfl
   have qq2 := hF9.cell1 (k := 2) rfl
   have qq3 := hF9.cell1 (k := 3) rfl
   have uu0 := hF9.cell2 (k := 0) rfl
   have vv0 := hF9.fz2 0
   obtain ⟨V0, hV0, hG0, hL0⟩ := hF9.set2 0 (Value.int .u8 (a1 : Int))
   replace hG0 : Fr K noB w t p 184 #[Value.int .u8 (a1 : Int), Value.bool a2, Value.int .i64 xn, Value.string xt] #[Value.int .u8 (a1 : Int), Value.bool false, Value.int .i64 0, Value.string ⟨#[]⟩] V0 (failP s2) := hG0
   have uu1 := hG0.cell2 (k := 1) rfl
   have vv1 := hG0.fz2 1
   obtain ⟨V1, hV1, hG1, hL1⟩ := hG0.set2 1 (Value.bool a2)
   replace hG1 : Fr K noB w t p 184 #[Value.int .u8 (a1 : Int), Value.bool a2, Value.int .i64 xn, Value.string xt] #[Value.int .u8 (a1 : Int), Value.bool a2, Value.int .i64 0, Value.string ⟨#[]⟩] V1 (failP s2) := hG1
   have uu2 := hG1.cell2 (k := 2) rfl
   have vv2 := hG1.fz2 2
   obtain ⟨V2, hV2, hG2, hL2⟩ := hG1.set2 2 (Value.int .i64 xn)
   replace hG2 : Fr K noB w t p 184 #[Value.int .u8 (a1 : Int), Value.bool a2, Value.int .i64 xn, Value.string xt] #[Value.int .u8 (a1 : Int), Value.bool a2, Value.int .i64 xn, Value.string ⟨#[]⟩] V2 (failP s2) := hG2
   have uu3 := hG2.cell2 (k := 3) rfl
   have vv3 := hG2.fz2 3
   obtain ⟨V3, hV3, hG3, hL3⟩ := hG2.set2 3 (Value.string xt)
   replace hG3 : Fr K noB w t p 184 #[Value.int .u8 (a1 : Int), Value.bool a2, Value.int .i64 xn, Value.string xt] #[Value.int .u8 (a1 : Int), Value.bool a2, Value.int .i64 xn, Value.string xt] V3 (failP s2) := hG3
   have tt0 := hG3.cell2 (k := 0) rfl
   have tt1 := hG3.cell2 (k := 1) rfl
   have tt2 := hG3.cell2 (k := 2) rfl
   have tt3 := hG3.cell2 (k := 3) rfl
   have HG : Hid (Fr K noB w t p 184 #[Value.int .u8 (a1 : Int), Value.bool a2, Value.int .i64 xn, Value.string xt] #[Value.int .u8 (a1 : Int), Value.bool a2, Value.int .i64 xn, Value.string xt] V3 (failP s2)) := hG3
   have HE : Hid (valP st ⟨(kn : Int), xb, xn, xt⟩ = (⟨(a1 : Int), a2, xn, xt⟩, (failP s2))) := by show _ = _; rw [HQ.out, if_neg H9.out]
   clear hG0 hG1 hG2 hG3
   go_wp2_with fail
   refine bodyPost_ret (v := .agg #[Value.int .u8 (a1 : Int), Value.bool a2, Value.int .i64 xn, Value.string xt]) (by simp [results, Tryz.results151, go_sem, tt0, tt1, tt2, tt3]) rfl ?_
   refine ⟨noB, [Value.int .u8 (a1 : Int), Value.bool a2, Value.int .i64 xn, Value.string xt], rfl, HG.out.fin.1, ?_, ?_, HG.out.fin.2.2⟩
   ·rw [HE.out]; exact HG.out.fin.2.1
   ·rw [HE.out]; exact ⟨rfl, ⟨by show (0 : Int) ≤ (a1 : Int); omega, by show (a1 : Int) < 256; omega⟩, hni, hts⟩
 ·by_cases h2 : a1 = 2
  ·have ck := hF1b.cell1 (k := 0) rfl
   have y1 : ((a1 : Int) == 1) = false := by simp; omega
   have y2 : ((a1 : Int) == 2) = true := by simp; omega
   have y3 : ((a1 : Int) == 3) = false := by simp; omega
   have Hh1 : Hid (¬ a1 = 1) := h1
   have Hh2 : Hid (a1 = 2) := h2
   clear h1 h2
   obtain ⟨⟨a2, s2⟩, r2⟩ : ∃ q, longP s1 xn = q := ⟨_, rfl⟩
   have g2 := grows_long s1 xn
   rw [r2] at g2
   simp only at g2
   have n2 : I64 a2 := by have := longP_in s1 xn (by assumption); rw [r2] at this; exact this
   have C2 : Hid (Calls Tryz.prog 138 #[.agg #[.iface t (.pointer (some ⟨p, 0, none⟩))], .int .i64 xn] W1 fun e w' => e = .returned (.int .i64 a2) ∧ Fr K noB w t p 184 #[Value.int .u8 (a1 : Int), Value.bool xb, Value.int .i64 xn, Value.string xt] #[Value.int .u8 0, Value.bool false, Value.int .i64 0, Value.string ⟨#[]⟩] w' s2 ∧ Kept (fun b => K b ∨ noB b) W1 w') := by
    refine hF1b.call (R := fun e => e = .returned (.int .i64 a2)) ?_
    have := long_any _ t p s1 xn W1 hF1b.port (by first | assumption | omega) (by omega)
    rw [r2] at this
    exact this
   have cw2 := hF1b.cell0
   have cc2 := hF1b.cell1 (k := 2) rfl
   have HF2 : Hid (Fr K noB w t p 184 #[Value.int .u8 (a1 : Int), Value.bool xb, Value.int .i64 xn, Value.string xt] #[Value.int .u8 0, Value.bool false, Value.int .i64 0, Value.string ⟨#[]⟩] W1 s1) := hF1b
   clear hF1b
   go_wp2_with fail
   refine C2.out.mono ?_
   rintro e w2 ⟨rfl, hF2a, hKa2⟩
   have x2 := hF2a.cell1 (k := 2) rfl
   have z2 := hF2a.fz1 2
   obtain ⟨W2, hW2, hF2b, hKb2⟩ := hF2a.set1 2 (.int .i64 a2)
   replace hF2b : Fr K noB w t p 184 #[Value.int .u8 (a1 : Int), Value.bool xb, Value.int .i64 a2, Value.string xt] #[Value.int .u8 0, Value.bool false, Value.int .i64 0, Value.string ⟨#[]⟩] W2 s2 := hF2b
   clear C2 cw2 cc2 HF2 hF2a
   obtain ⟨E9, hE9⟩ : ∃ E9, chkV (⟨(a1 : Int), xb, a2, xt⟩ : Val) = E9 := ⟨_, rfl⟩
   have C8 : Hid (Calls Tryz.prog 160 #[.agg #[Value.int .u8 (a1 : Int), Value.bool xb, Value.int .i64 a2, Value.string xt]] W2 fun e w' => e = .returned (.int .i64 E9) ∧ Below W2.heap.size W2 w') := by
    have := check_any (⟨(a1 : Int), xb, a2, xt⟩ : Val) W2 (by have hsm : small xt := (by assumption); unfold small at hsm; show ByteArray.size xt ≤ _; omega) (htb.mono (fun _ h => h) hF2b.kept).2.2
    rw [hE9] at this
    exact this
   have e0 := hF2b.cell1 (k := 0) rfl
   have e1 := hF2b.cell1 (k := 1) rfl
   have e2 := hF2b.cell1 (k := 2) rfl
   have e3 := hF2b.cell1 (k := 3) rfl
   have HF8 : Hid (Fr K noB w t p 184 #[Value.int .u8 (a1 : Int), Value.bool xb, Value.int .i64 a2, Value.string xt] #[Value.int .u8 0, Value.bool false, Value.int .i64 0, Value.string ⟨#[]⟩] W2 s2) := hF2b
   clear hF2b
   go_wp2_with fail
   refine C8.out.mono ?_
   rintro e w8 ⟨rfl, hb8⟩
   have hF8 : Fr K noB w t p 184 #[Value.int .u8 (a1 : Int), Value.bool xb, Value.int .i64 a2, Value.string xt] #[Value.int .u8 0, Value.bool false, Value.int .i64 0, Value.string ⟨#[]⟩] w8 s2 := HF8.out.below hb8
   clear C8 hb8 HF8 e0 e1 e2 e3
   have cw8 := hF8.cell0
   have HQ : Hid (valP st ⟨(kn : Int), xb, xn, xt⟩ = (⟨(a1 : Int), xb, a2, xt⟩, if E9 = 0 then s2 else failP s2)) := by
    show _ = _
    simp only [valP, Int.toNat_natCast, r1]
    rw [if_neg Hh1.out, if_pos Hh2.out, r2]
    rw [hE9]
   by_cases h9 : E9 = 0
   ·have y9 : (E9 != 0) = false := by simp [h9]
    have H9 : Hid (E9 = 0) := h9
    clear h9
    have qq0 := hF8.cell1 (k := 0) rfl
    have qq1 := hF8.cell1 (k := 1) rfl
    have qq2 := hF8.cell1 (k := 2) rfl
    have qq3 := hF8.cell1 (k := 3) rfl
    have uu0 := hF8.cell2 (k := 0) rfl
    have vv0 := hF8.fz2 0
    obtain ⟨V0, hV0, hG0, hL0⟩ := hF8.set2 0 (Value.int .u8 (a1 : Int))
    replace hG0 : Fr K noB w t p 184 #[Value.int .u8 (a1 : Int), Value.bool xb, Value.int .i64 a2, Value.string xt] #[Value.int .u8 (a1 : Int), Value.bool false, Value.int .i64 0, Value.string ⟨#[]⟩] V0 s2 := hG0
    have uu1 := hG0.cell2 (k := 1) rfl
    have vv1 := hG0.fz2 1
    obtain ⟨V1, hV1, hG1, hL1⟩ := hG0.set2 1 (Value.bool xb)
    replace hG1 : Fr K noB w t p 184 #[Value.int .u8 (a1 : Int), Value.bool xb, Value.int .i64 a2, Value.string xt] #[Value.int .u8 (a1 : Int), Value.bool xb, Value.int .i64 0, Value.string ⟨#[]⟩] V1 s2 := hG1
    have uu2 := hG1.cell2 (k := 2) rfl
    have vv2 := hG1.fz2 2
    obtain ⟨V2, hV2, hG2, hL2⟩ := hG1.set2 2 (Value.int .i64 a2)
    replace hG2 : Fr K noB w t p 184 #[Value.int .u8 (a1 : Int), Value.bool xb, Value.int .i64 a2, Value.string xt] #[Value.int .u8 (a1 : Int), Value.bool xb, Value.int .i64 a2, Value.string ⟨#[]⟩] V2 s2 := hG2
    have uu3 := hG2.cell2 (k := 3) rfl
    have vv3 := hG2.fz2 3
    obtain ⟨V3, hV3, hG3, hL3⟩ := hG2.set2 3 (Value.string xt)
    replace hG3 : Fr K noB w t p 184 #[Value.int .u8 (a1 : Int), Value.bool xb, Value.int .i64 a2, Value.string xt] #[Value.int .u8 (a1 : Int), Value.bool xb, Value.int .i64 a2, Value.string xt] V3 s2 := hG3
    have tt0 := hG3.cell2 (k := 0) rfl
    have tt1 := hG3.cell2 (k := 1) rfl
    have tt2 := hG3.cell2 (k := 2) rfl
    have tt3 := hG3.cell2 (k := 3) rfl
    have HG : Hid (Fr K noB w t p 184 #[Value.int .u8 (a1 : Int), Value.bool xb, Value.int .i64 a2, Value.string xt] #[Value.int .u8 (a1 : Int), Value.bool xb, Value.int .i64 a2, Value.string xt] V3 s2) := hG3
    have HE : Hid (valP st ⟨(kn : Int), xb, xn, xt⟩ = (⟨(a1 : Int), xb, a2, xt⟩, s2)) := by show _ = _; rw [HQ.out, if_pos H9.out]
    clear hG0 hG1 hG2 hG3
    go_wp2_with fail
    refine bodyPost_ret (v := .agg #[Value.int .u8 (a1 : Int), Value.bool xb, Value.int .i64 a2, Value.string xt]) (by simp [results, Tryz.results151, go_sem, tt0, tt1, tt2, tt3]) rfl ?_
    refine ⟨noB, [Value.int .u8 (a1 : Int), Value.bool xb, Value.int .i64 a2, Value.string xt], rfl, HG.out.fin.1, ?_, ?_, HG.out.fin.2.2⟩
    ·rw [HE.out]; exact HG.out.fin.2.1
    ·rw [HE.out]; exact ⟨rfl, ⟨by show (0 : Int) ≤ (a1 : Int); omega, by show (a1 : Int) < 256; omega⟩, n2, hts⟩
   ·have y9 : (E9 != 0) = true := by simp [h9]
    have H9 : Hid (¬ E9 = 0) := h9
    clear h9
    have C9 : Hid (Calls Tryz.prog 182 #[.pointer (some ⟨p, 0, none⟩)] w8 fun e w' => e = .returned (.tuple #[]) ∧ Fr K noB w t p 184 #[Value.int .u8 (a1 : Int), Value.bool xb, Value.int .i64 a2, Value.string xt] #[Value.int .u8 0, Value.bool false, Value.int .i64 0, Value.string ⟨#[]⟩] w' (failP s2) ∧ Kept (fun b => K b ∨ noB b) w8 w') := by
     refine hF8.call (R := fun e => e = .returned (.tuple #[])) ?_
     exact fail_any _ t p s2 w8 hF8.port
    clear hF8
    go_wp2_with fail
    refine C9.out.mono ?_
    rintro e w9 ⟨rfl, hF9, hK9⟩
    clear C9
    have qq0 := hF9.cell1 (k := 0) rfl
    have qq1 := hF9.cell1 (k := 1) rfl
    have qq2 := hF9.cell1 (k := 2) rfl
    have qq3 := hF9.cell1 (k := 3) rfl
    have uu0 := hF9.cell2 (k := 0) rfl
    have vv0 := hF9.fz2 0
    obtain ⟨V0, hV0, hG0, hL0⟩ := hF9.set2 0 (Value.int .u8 (a1 : Int))
    replace hG0 : Fr K noB w t p 184 #[Value.int .u8 (a1 : Int), Value.bool xb, Value.int .i64 a2, Value.string xt] #[Value.int .u8 (a1 : Int), Value.bool false, Value.int .i64 0, Value.string ⟨#[]⟩] V0 (failP s2) := hG0
    have uu1 := hG0.cell2 (k := 1) rfl
    have vv1 := hG0.fz2 1
    obtain ⟨V1, hV1, hG1, hL1⟩ := hG0.set2 1 (Value.bool xb)
    replace hG1 : Fr K noB w t p 184 #[Value.int .u8 (a1 : Int), Value.bool xb, Value.int .i64 a2, Value.string xt] #[Value.int .u8 (a1 : Int), Value.bool xb, Value.int .i64 0, Value.string ⟨#[]⟩] V1 (failP s2) := hG1
    have uu2 := hG1.cell2 (k := 2) rfl
    have vv2 := hG1.fz2 2
    obtain ⟨V2, hV2, hG2, hL2⟩ := hG1.set2 2 (Value.int .i64 a2)
    replace hG2 : Fr K noB w t p 184 #[Value.int .u8 (a1 : Int), Value.bool xb, Value.int .i64 a2, Value.string xt] #[Value.int .u8 (a1 : Int), Value.bool xb, Value.int .i64 a2, Value.string ⟨#[]⟩] V2 (failP s2) := hG2
    have uu3 := hG2.cell2 (k := 3) rfl
    have vv3 := hG2.fz2 3
    obtain ⟨V3, hV3, hG3, hL3⟩ := hG2.set2 3 (Value.string xt)
    replace hG3 : Fr K noB w t p 184 #[Value.int .u8 (a1 : Int), Value.bool xb, Value.int .i64 a2, Value.string xt] #[Value.int .u8 (a1 : Int), Value.bool xb, Value.int .i64 a2, Value.string xt] V3 (failP s2) := hG3
    have tt0 := hG3.cell2 (k := 0) rfl
    have tt1 := hG3.cell2 (k := 1) rfl
    have tt2 := hG3.cell2 (k := 2) rfl
    have tt3 := hG3.cell2 (k := 3) rfl
    have HG : Hid (Fr K noB w t p 184 #[Value.int .u8 (a1 : Int), Value.bool xb, Value.int .i64 a2, Value.string xt] #[Value.int .u8 (a1 : Int), Value.bool xb, Value.int .i64 a2, Value.string xt] V3 (failP s2)) := hG3
    have HE : Hid (valP st ⟨(kn : Int), xb, xn, xt⟩ = (⟨(a1 : Int), xb, a2, xt⟩, (failP s2))) := by show _ = _; rw [HQ.out, if_neg H9.out]
    clear hG0 hG1 hG2 hG3
    go_wp2_with fail
    refine bodyPost_ret (v := .agg #[Value.int .u8 (a1 : Int), Value.bool xb, Value.int .i64 a2, Value.string xt]) (by simp [results, Tryz.results151, go_sem, tt0, tt1, tt2, tt3]) rfl ?_
    refine ⟨noB, [Value.int .u8 (a1 : Int), Value.bool xb, Value.int .i64 a2, Value.string xt], rfl, HG.out.fin.1, ?_, ?_, HG.out.fin.2.2⟩
    ·rw [HE.out]; exact HG.out.fin.2.1
    ·rw [HE.out]; exact ⟨rfl, ⟨by show (0 : Int) ≤ (a1 : Int); omega, by show (a1 : Int) < 256; omega⟩, n2, hts⟩
  ·by_cases h3 : a1 = 3
   ·have ck := hF1b.cell1 (k := 0) rfl
    have y1 : ((a1 : Int) == 1) = false := by simp; omega
    have y2 : ((a1 : Int) == 2) = false := by simp; omega
    have y3 : ((a1 : Int) == 3) = true := by simp; omega
    have Hh1 : Hid (¬ a1 = 1) := h1
    have Hh2 : Hid (¬ a1 = 2) := h2
    have Hh3 : Hid (a1 = 3) := h3
    clear h1 h2 h3
    obtain ⟨⟨a2, s2⟩, r2⟩ : ∃ q, txtP s1 xt = q := ⟨_, rfl⟩
    have g2 := grows_txt s1 xt
    rw [r2] at g2
    simp only at g2
    have n2 : small a2 := by have := txtP_small s1 xt (by assumption); rw [r2] at this; exact this
    have C2 : Hid (Calls Tryz.prog TF #[.pointer (some ⟨p, 0, none⟩), .string xt] W1 fun e w' => e = .returned (.string a2) ∧ Fr K noB w t p 184 #[Value.int .u8 (a1 : Int), Value.bool xb, Value.int .i64 xn, Value.string xt] #[Value.int .u8 0, Value.bool false, Value.int .i64 0, Value.string ⟨#[]⟩] w' s2 ∧ Kept (fun b => K b ∨ noB b) W1 w') := by
     refine hF1b.call (R := fun e => e = .returned (.string a2)) ?_
     have := txt_any _ t p s1 xt W1 hF1b.port (by first | assumption | omega) (by omega)
     rw [r2, hTF] at this
     exact this
    have cw2 := hF1b.cell0
    have cc2 := hF1b.cell1 (k := 3) rfl
    have HF2 : Hid (Fr K noB w t p 184 #[Value.int .u8 (a1 : Int), Value.bool xb, Value.int .i64 xn, Value.string xt] #[Value.int .u8 0, Value.bool false, Value.int .i64 0, Value.string ⟨#[]⟩] W1 s1) := hF1b
    clear hF1b
    go_wp2_with fail
    refine C2.out.mono ?_
    rintro e w2 ⟨rfl, hF2a, hKa2⟩
    have x2 := hF2a.cell1 (k := 3) rfl
    have z2 := hF2a.fz1 3
    obtain ⟨W2, hW2, hF2b, hKb2⟩ := hF2a.set1 3 (.string a2)
    replace hF2b : Fr K noB w t p 184 #[Value.int .u8 (a1 : Int), Value.bool xb, Value.int .i64 xn, Value.string a2] #[Value.int .u8 0, Value.bool false, Value.int .i64 0, Value.string ⟨#[]⟩] W2 s2 := hF2b
    clear C2 cw2 cc2 HF2 hF2a
    obtain ⟨E9, hE9⟩ : ∃ E9, chkV (⟨(a1 : Int), xb, xn, a2⟩ : Val) = E9 := ⟨_, rfl⟩
    have C8 : Hid (Calls Tryz.prog 160 #[.agg #[Value.int .u8 (a1 : Int), Value.bool xb, Value.int .i64 xn, Value.string a2]] W2 fun e w' => e = .returned (.int .i64 E9) ∧ Below W2.heap.size W2 w') := by
     have := check_any (⟨(a1 : Int), xb, xn, a2⟩ : Val) W2 (by have hsm : small a2 := (by assumption); unfold small at hsm; show ByteArray.size a2 ≤ _; omega) (htb.mono (fun _ h => h) hF2b.kept).2.2
     rw [hE9] at this
     exact this
    have e0 := hF2b.cell1 (k := 0) rfl
    have e1 := hF2b.cell1 (k := 1) rfl
    have e2 := hF2b.cell1 (k := 2) rfl
    have e3 := hF2b.cell1 (k := 3) rfl
    have HF8 : Hid (Fr K noB w t p 184 #[Value.int .u8 (a1 : Int), Value.bool xb, Value.int .i64 xn, Value.string a2] #[Value.int .u8 0, Value.bool false, Value.int .i64 0, Value.string ⟨#[]⟩] W2 s2) := hF2b
    clear hF2b
    go_wp2_with fail
    refine C8.out.mono ?_
    rintro e w8 ⟨rfl, hb8⟩
    have hF8 : Fr K noB w t p 184 #[Value.int .u8 (a1 : Int), Value.bool xb, Value.int .i64 xn, Value.string a2] #[Value.int .u8 0, Value.bool false, Value.int .i64 0, Value.string ⟨#[]⟩] w8 s2 := HF8.out.below hb8
    clear C8 hb8 HF8 e0 e1 e2 e3
    have cw8 := hF8.cell0
    have HQ : Hid (valP st ⟨(kn : Int), xb, xn, xt⟩ = (⟨(a1 : Int), xb, xn, a2⟩, if E9 = 0 then s2 else failP s2)) := by
     show _ = _
     simp only [valP, Int.toNat_natCast, r1]
     rw [if_neg Hh1.out, if_neg Hh2.out, if_pos Hh3.out, r2]
     rw [hE9]
    by_cases h9 : E9 = 0
    ·have y9 : (E9 != 0) = false := by simp [h9]
     have H9 : Hid (E9 = 0) := h9
     clear h9
     have qq0 := hF8.cell1 (k := 0) rfl
     have qq1 := hF8.cell1 (k := 1) rfl
     have qq2 := hF8.cell1 (k := 2) rfl
     have qq3 := hF8.cell1 (k := 3) rfl
     have uu0 := hF8.cell2 (k := 0) rfl
     have vv0 := hF8.fz2 0
     obtain ⟨V0, hV0, hG0, hL0⟩ := hF8.set2 0 (Value.int .u8 (a1 : Int))
     replace hG0 : Fr K noB w t p 184 #[Value.int .u8 (a1 : Int), Value.bool xb, Value.int .i64 xn, Value.string a2] #[Value.int .u8 (a1 : Int), Value.bool false, Value.int .i64 0, Value.string ⟨#[]⟩] V0 s2 := hG0
     have uu1 := hG0.cell2 (k := 1) rfl
     have vv1 := hG0.fz2 1
     obtain ⟨V1, hV1, hG1, hL1⟩ := hG0.set2 1 (Value.bool xb)
     replace hG1 : Fr K noB w t p 184 #[Value.int .u8 (a1 : Int), Value.bool xb, Value.int .i64 xn, Value.string a2] #[Value.int .u8 (a1 : Int), Value.bool xb, Value.int .i64 0, Value.string ⟨#[]⟩] V1 s2 := hG1
     have uu2 := hG1.cell2 (k := 2) rfl
     have vv2 := hG1.fz2 2
     obtain ⟨V2, hV2, hG2, hL2⟩ := hG1.set2 2 (Value.int .i64 xn)
     replace hG2 : Fr K noB w t p 184 #[Value.int .u8 (a1 : Int), Value.bool xb, Value.int .i64 xn, Value.string a2] #[Value.int .u8 (a1 : Int), Value.bool xb, Value.int .i64 xn, Value.string ⟨#[]⟩] V2 s2 := hG2
     have uu3 := hG2.cell2 (k := 3) rfl
     have vv3 := hG2.fz2 3
     obtain ⟨V3, hV3, hG3, hL3⟩ := hG2.set2 3 (Value.string a2)
     replace hG3 : Fr K noB w t p 184 #[Value.int .u8 (a1 : Int), Value.bool xb, Value.int .i64 xn, Value.string a2] #[Value.int .u8 (a1 : Int), Value.bool xb, Value.int .i64 xn, Value.string a2] V3 s2 := hG3
     have tt0 := hG3.cell2 (k := 0) rfl
     have tt1 := hG3.cell2 (k := 1) rfl
     have tt2 := hG3.cell2 (k := 2) rfl
     have tt3 := hG3.cell2 (k := 3) rfl
     have HG : Hid (Fr K noB w t p 184 #[Value.int .u8 (a1 : Int), Value.bool xb, Value.int .i64 xn, Value.string a2] #[Value.int .u8 (a1 : Int), Value.bool xb, Value.int .i64 xn, Value.string a2] V3 s2) := hG3
     have HE : Hid (valP st ⟨(kn : Int), xb, xn, xt⟩ = (⟨(a1 : Int), xb, xn, a2⟩, s2)) := by show _ = _; rw [HQ.out, if_pos H9.out]
     clear hG0 hG1 hG2 hG3
     go_wp2_with fail
     refine bodyPost_ret (v := .agg #[Value.int .u8 (a1 : Int), Value.bool xb, Value.int .i64 xn, Value.string a2]) (by simp [results, Tryz.results151, go_sem, tt0, tt1, tt2, tt3]) rfl ?_
     refine ⟨noB, [Value.int .u8 (a1 : Int), Value.bool xb, Value.int .i64 xn, Value.string a2], rfl, HG.out.fin.1, ?_, ?_, HG.out.fin.2.2⟩
     ·rw [HE.out]; exact HG.out.fin.2.1
     ·rw [HE.out]; exact ⟨rfl, ⟨by show (0 : Int) ≤ (a1 : Int); omega, by show (a1 : Int) < 256; omega⟩, hni, n2⟩
    ·have y9 : (E9 != 0) = true := by simp [h9]
     have H9 : Hid (¬ E9 = 0) := h9
     clear h9
     have C9 : Hid (Calls Tryz.prog 182 #[.pointer (some ⟨p, 0, none⟩)] w8 fun e w' => e = .returned (.tuple #[]) ∧ Fr K noB w t p 184 #[Value.int .u8 (a1 : Int), Value.bool xb, Value.int .i64 xn, Value.string a2] #[Value.int .u8 0, Value.bool false, Value.int .i64 0, Value.string ⟨#[]⟩] w' (failP s2) ∧ Kept (fun b => K b ∨ noB b) w8 w') := by
      refine hF8.call (R := fun e => e = .returned (.tuple #[])) ?_
      exact fail_any _ t p s2 w8 hF8.port
     clear hF8
     go_wp2_with fail
     refine C9.out.mono ?_
     rintro e w9 ⟨rfl, hF9, hK9⟩
     clear C9
     have qq0 := hF9.cell1 (k := 0) rfl
     have qq1 := hF9.cell1 (k := 1) rfl
     have qq2 := hF9.cell1 (k := 2) rfl
     have qq3 := hF9.cell1 (k := 3) rfl
     have uu0 := hF9.cell2 (k := 0) rfl
     have vv0 := hF9.fz2 0
     obtain ⟨V0, hV0, hG0, hL0⟩ := hF9.set2 0 (Value.int .u8 (a1 : Int))
     replace hG0 : Fr K noB w t p 184 #[Value.int .u8 (a1 : Int), Value.bool xb, Value.int .i64 xn, Value.string a2] #[Value.int .u8 (a1 : Int), Value.bool false, Value.int .i64 0, Value.string ⟨#[]⟩] V0 (failP s2) := hG0
     have uu1 := hG0.cell2 (k := 1) rfl
     have vv1 := hG0.fz2 1
     obtain ⟨V1, hV1, hG1, hL1⟩ := hG0.set2 1 (Value.bool xb)
     replace hG1 : Fr K noB w t p 184 #[Value.int .u8 (a1 : Int), Value.bool xb, Value.int .i64 xn, Value.string a2] #[Value.int .u8 (a1 : Int), Value.bool xb, Value.int .i64 0, Value.string ⟨#[]⟩] V1 (failP s2) := hG1
     have uu2 := hG1.cell2 (k := 2) rfl
     have vv2 := hG1.fz2 2
     obtain ⟨V2, hV2, hG2, hL2⟩ := hG1.set2 2 (Value.int .i64 xn)
     replace hG2 : Fr K noB w t p 184 #[Value.int .u8 (a1 : Int), Value.bool xb, Value.int .i64 xn, Value.string a2] #[Value.int .u8 (a1 : Int), Value.bool xb, Value.int .i64 xn, Value.string ⟨#[]⟩] V2 (failP s2) := hG2
     have uu3 := hG2.cell2 (k := 3) rfl
     have vv3 := hG2.fz2 3
     obtain ⟨V3, hV3, hG3, hL3⟩ := hG2.set2 3 (Value.string a2)
     replace hG3 : Fr K noB w t p 184 #[Value.int .u8 (a1 : Int), Value.bool xb, Value.int .i64 xn, Value.string a2] #[Value.int .u8 (a1 : Int), Value.bool xb, Value.int .i64 xn, Value.string a2] V3 (failP s2) := hG3
     have tt0 := hG3.cell2 (k := 0) rfl
     have tt1 := hG3.cell2 (k := 1) rfl
     have tt2 := hG3.cell2 (k := 2) rfl
     have tt3 := hG3.cell2 (k := 3) rfl
     have HG : Hid (Fr K noB w t p 184 #[Value.int .u8 (a1 : Int), Value.bool xb, Value.int .i64 xn, Value.string a2] #[Value.int .u8 (a1 : Int), Value.bool xb, Value.int .i64 xn, Value.string a2] V3 (failP s2)) := hG3
     have HE : Hid (valP st ⟨(kn : Int), xb, xn, xt⟩ = (⟨(a1 : Int), xb, xn, a2⟩, (failP s2))) := by show _ = _; rw [HQ.out, if_neg H9.out]
     clear hG0 hG1 hG2 hG3
     go_wp2_with fail
     refine bodyPost_ret (v := .agg #[Value.int .u8 (a1 : Int), Value.bool xb, Value.int .i64 xn, Value.string a2]) (by simp [results, Tryz.results151, go_sem, tt0, tt1, tt2, tt3]) rfl ?_
     refine ⟨noB, [Value.int .u8 (a1 : Int), Value.bool xb, Value.int .i64 xn, Value.string a2], rfl, HG.out.fin.1, ?_, ?_, HG.out.fin.2.2⟩
     ·rw [HE.out]; exact HG.out.fin.2.1
     ·rw [HE.out]; exact ⟨rfl, ⟨by show (0 : Int) ≤ (a1 : Int); omega, by show (a1 : Int) < 256; omega⟩, hni, n2⟩
   ·have ck := hF1b.cell1 (k := 0) rfl
    have y1 : ((a1 : Int) == 1) = false := by simp; omega
    have y2 : ((a1 : Int) == 2) = false := by simp; omega
    have y3 : ((a1 : Int) == 3) = false := by simp; omega
    have Hh1 : Hid (¬ a1 = 1) := h1
    have Hh2 : Hid (¬ a1 = 2) := h2
    have Hh3 : Hid (¬ a1 = 3) := h3
    clear h1 h2 h3
    obtain ⟨E9, hE9⟩ : ∃ E9, chkV (⟨(a1 : Int), xb, xn, xt⟩ : Val) = E9 := ⟨_, rfl⟩
    have C8 : Hid (Calls Tryz.prog 160 #[.agg #[Value.int .u8 (a1 : Int), Value.bool xb, Value.int .i64 xn, Value.string xt]] W1 fun e w' => e = .returned (.int .i64 E9) ∧ Below W1.heap.size W1 w') := by
     have := check_any (⟨(a1 : Int), xb, xn, xt⟩ : Val) W1 (by have hsm : small xt := (by assumption); unfold small at hsm; show ByteArray.size xt ≤ _; omega) (htb.mono (fun _ h => h) hF1b.kept).2.2
     rw [hE9] at this
     exact this
    have e0 := hF1b.cell1 (k := 0) rfl
    have e1 := hF1b.cell1 (k := 1) rfl
    have e2 := hF1b.cell1 (k := 2) rfl
    have e3 := hF1b.cell1 (k := 3) rfl
    have HF8 : Hid (Fr K noB w t p 184 #[Value.int .u8 (a1 : Int), Value.bool xb, Value.int .i64 xn, Value.string xt] #[Value.int .u8 0, Value.bool false, Value.int .i64 0, Value.string ⟨#[]⟩] W1 s1) := hF1b
    clear hF1b
    go_wp2_with fail
    refine C8.out.mono ?_
    rintro e w8 ⟨rfl, hb8⟩
    have hF8 : Fr K noB w t p 184 #[Value.int .u8 (a1 : Int), Value.bool xb, Value.int .i64 xn, Value.string xt] #[Value.int .u8 0, Value.bool false, Value.int .i64 0, Value.string ⟨#[]⟩] w8 s1 := HF8.out.below hb8
    clear C8 hb8 HF8 e0 e1 e2 e3
    have cw8 := hF8.cell0
    have HQ : Hid (valP st ⟨(kn : Int), xb, xn, xt⟩ = (⟨(a1 : Int), xb, xn, xt⟩, if E9 = 0 then s1 else failP s1)) := by
     show _ = _
     simp only [valP, Int.toNat_natCast, r1]
     rw [if_neg Hh1.out, if_neg Hh2.out, if_neg Hh3.out]
     rw [hE9]
    by_cases h9 : E9 = 0
    ·have y9 : (E9 != 0) = false := by simp [h9]
     have H9 : Hid (E9 = 0) := h9
     clear h9
     have qq0 := hF8.cell1 (k := 0) rfl
     have qq1 := hF8.cell1 (k := 1) rfl
     have qq2 := hF8.cell1 (k := 2) rfl
     have qq3 := hF8.cell1 (k := 3) rfl
     have uu0 := hF8.cell2 (k := 0) rfl
     have vv0 := hF8.fz2 0
     obtain ⟨V0, hV0, hG0, hL0⟩ := hF8.set2 0 (Value.int .u8 (a1 : Int))
     replace hG0 : Fr K noB w t p 184 #[Value.int .u8 (a1 : Int), Value.bool xb, Value.int .i64 xn, Value.string xt] #[Value.int .u8 (a1 : Int), Value.bool false, Value.int .i64 0, Value.string ⟨#[]⟩] V0 s1 := hG0
     have uu1 := hG0.cell2 (k := 1) rfl
     have vv1 := hG0.fz2 1
     obtain ⟨V1, hV1, hG1, hL1⟩ := hG0.set2 1 (Value.bool xb)
     replace hG1 : Fr K noB w t p 184 #[Value.int .u8 (a1 : Int), Value.bool xb, Value.int .i64 xn, Value.string xt] #[Value.int .u8 (a1 : Int), Value.bool xb, Value.int .i64 0, Value.string ⟨#[]⟩] V1 s1 := hG1
     have uu2 := hG1.cell2 (k := 2) rfl
     have vv2 := hG1.fz2 2
     obtain ⟨V2, hV2, hG2, hL2⟩ := hG1.set2 2 (Value.int .i64 xn)
     replace hG2 : Fr K noB w t p 184 #[Value.int .u8 (a1 : Int), Value.bool xb, Value.int .i64 xn, Value.string xt] #[Value.int .u8 (a1 : Int), Value.bool xb, Value.int .i64 xn, Value.string ⟨#[]⟩] V2 s1 := hG2
     have uu3 := hG2.cell2 (k := 3) rfl
     have vv3 := hG2.fz2 3
     obtain ⟨V3, hV3, hG3, hL3⟩ := hG2.set2 3 (Value.string xt)
     replace hG3 : Fr K noB w t p 184 #[Value.int .u8 (a1 : Int), Value.bool xb, Value.int .i64 xn, Value.string xt] #[Value.int .u8 (a1 : Int), Value.bool xb, Value.int .i64 xn, Value.string xt] V3 s1 := hG3
     have tt0 := hG3.cell2 (k := 0) rfl
     have tt1 := hG3.cell2 (k := 1) rfl
     have tt2 := hG3.cell2 (k := 2) rfl
     have tt3 := hG3.cell2 (k := 3) rfl
     have HG : Hid (Fr K noB w t p 184 #[Value.int .u8 (a1 : Int), Value.bool xb, Value.int .i64 xn, Value.string xt] #[Value.int .u8 (a1 : Int), Value.bool xb, Value.int .i64 xn, Value.string xt] V3 s1) := hG3
     have HE : Hid (valP st ⟨(kn : Int), xb, xn, xt⟩ = (⟨(a1 : Int), xb, xn, xt⟩, s1)) := by show _ = _; rw [HQ.out, if_pos H9.out]
     clear hG0 hG1 hG2 hG3
     go_wp2_with fail
     refine bodyPost_ret (v := .agg #[Value.int .u8 (a1 : Int), Value.bool xb, Value.int .i64 xn, Value.string xt]) (by simp [results, Tryz.results151, go_sem, tt0, tt1, tt2, tt3]) rfl ?_
     refine ⟨noB, [Value.int .u8 (a1 : Int), Value.bool xb, Value.int .i64 xn, Value.string xt], rfl, HG.out.fin.1, ?_, ?_, HG.out.fin.2.2⟩
     ·rw [HE.out]; exact HG.out.fin.2.1
     ·rw [HE.out]; exact ⟨rfl, ⟨by show (0 : Int) ≤ (a1 : Int); omega, by show (a1 : Int) < 256; omega⟩, hni, hts⟩
    ·have y9 : (E9 != 0) = true := by simp [h9]
     have H9 : Hid (¬ E9 = 0) := h9
     clear h9
     have C9 : Hid (Calls Tryz.prog 182 #[.pointer (some ⟨p, 0, none⟩)] w8 fun e w' => e = .returned (.tuple #[]) ∧ Fr K noB w t p 184 #[Value.int .u8 (a1 : Int), Value.bool xb, Value.int .i64 xn, Value.string xt] #[Value.int .u8 0, Value.bool false, Value.int .i64 0, Value.string ⟨#[]⟩] w' (failP s1) ∧ Kept (fun b => K b ∨ noB b) w8 w') := by
      refine hF8.call (R := fun e => e = .returned (.tuple #[])) ?_
      exact fail_any _ t p s1 w8 hF8.port
     clear hF8
     go_wp2_with fail
     refine C9.out.mono ?_
     rintro e w9 ⟨rfl, hF9, hK9⟩
     clear C9
     have qq0 := hF9.cell1 (k := 0) rfl
     have qq1 := hF9.cell1 (k := 1) rfl
     have qq2 := hF9.cell1 (k := 2) rfl
     have qq3 := hF9.cell1 (k := 3) rfl
     have uu0 := hF9.cell2 (k := 0) rfl
     have vv0 := hF9.fz2 0
     obtain ⟨V0, hV0, hG0, hL0⟩ := hF9.set2 0 (Value.int .u8 (a1 : Int))
     replace hG0 : Fr K noB w t p 184 #[Value.int .u8 (a1 : Int), Value.bool xb, Value.int .i64 xn, Value.string xt] #[Value.int .u8 (a1 : Int), Value.bool false, Value.int .i64 0, Value.string ⟨#[]⟩] V0 (failP s1) := hG0
     have uu1 := hG0.cell2 (k := 1) rfl
     have vv1 := hG0.fz2 1
     obtain ⟨V1, hV1, hG1, hL1⟩ := hG0.set2 1 (Value.bool xb)
     replace hG1 : Fr K noB w t p 184 #[Value.int .u8 (a1 : Int), Value.bool xb, Value.int .i64 xn, Value.string xt] #[Value.int .u8 (a1 : Int), Value.bool xb, Value.int .i64 0, Value.string ⟨#[]⟩] V1 (failP s1) := hG1
     have uu2 := hG1.cell2 (k := 2) rfl
     have vv2 := hG1.fz2 2
     obtain ⟨V2, hV2, hG2, hL2⟩ := hG1.set2 2 (Value.int .i64 xn)
     replace hG2 : Fr K noB w t p 184 #[Value.int .u8 (a1 : Int), Value.bool xb, Value.int .i64 xn, Value.string xt] #[Value.int .u8 (a1 : Int), Value.bool xb, Value.int .i64 xn, Value.string ⟨#[]⟩] V2 (failP s1) := hG2
     have uu3 := hG2.cell2 (k := 3) rfl
     have vv3 := hG2.fz2 3
     obtain ⟨V3, hV3, hG3, hL3⟩ := hG2.set2 3 (Value.string xt)
     replace hG3 : Fr K noB w t p 184 #[Value.int .u8 (a1 : Int), Value.bool xb, Value.int .i64 xn, Value.string xt] #[Value.int .u8 (a1 : Int), Value.bool xb, Value.int .i64 xn, Value.string xt] V3 (failP s1) := hG3
     have tt0 := hG3.cell2 (k := 0) rfl
     have tt1 := hG3.cell2 (k := 1) rfl
     have tt2 := hG3.cell2 (k := 2) rfl
     have tt3 := hG3.cell2 (k := 3) rfl
     have HG : Hid (Fr K noB w t p 184 #[Value.int .u8 (a1 : Int), Value.bool xb, Value.int .i64 xn, Value.string xt] #[Value.int .u8 (a1 : Int), Value.bool xb, Value.int .i64 xn, Value.string xt] V3 (failP s1)) := hG3
     have HE : Hid (valP st ⟨(kn : Int), xb, xn, xt⟩ = (⟨(a1 : Int), xb, xn, xt⟩, (failP s1))) := by show _ = _; rw [HQ.out, if_neg H9.out]
     clear hG0 hG1 hG2 hG3
     go_wp2_with fail
     refine bodyPost_ret (v := .agg #[Value.int .u8 (a1 : Int), Value.bool xb, Value.int .i64 xn, Value.string xt]) (by simp [results, Tryz.results151, go_sem, tt0, tt1, tt2, tt3]) rfl ?_
     refine ⟨noB, [Value.int .u8 (a1 : Int), Value.bool xb, Value.int .i64 xn, Value.string xt], rfl, HG.out.fin.1, ?_, ?_, HG.out.fin.2.2⟩
     ·rw [HE.out]; exact HG.out.fin.2.1
     ·rw [HE.out]; exact ⟨rfl, ⟨by show (0 : Int) ≤ (a1 : Int); omega, by show (a1 : Int) < 256; omega⟩, hni, hts⟩
set_option maxRecDepth 100000 in
set_option maxHeartbeats 1000000 in
theorem row_any (t p : Nat) : SliceC rVal 4 32 rowP 2069 t p 133 := by
 intro K D w st v xs htb h hDK hxs hl
 obtain ⟨W0, hW0, hP0, hK0, hs0, hg0⟩ := h.box
 have cw := cellR (k := 0) hg0 rfl
 have hls : ListIs rVal 4 32 D W0 v xs := hxs.mono mVal (fun _ h => h) (hK0.less hDK)
 have C : Hid (Calls Tryz.prog 150 #[wk t p, v, .int .u64 64, .func (.func 151) #[wk t p] #[]] W0 fun e w' => ∃ (N : Nat → Prop) (v' : Value), e = .returned v' ∧ (∀ b, N b → w.heap.size ≤ b) ∧ PortIs (fun b => K b ∨ N b) w' t p (rowP st xs).2 ∧ ListIs rVal 4 32 (fun b => D b ∨ N b) w' v' (rowP st xs).1 ∧ Kept K w w') := by
  refine (list62_any valP val0 64 2059 t p 151 (wk t p) (by omega) (by omega) grows_val e63 (value_part t p) K D W0 st v xs (htb.mono (fun _ h => h) hK0) (hP0.less fun b hb => .inl hb) hDK hls hl).mono ?_
  rintro e w' ⟨N, v', h1, h2, h3, h4, h5⟩
  exact ⟨N, v', h1, fun b hb => by have := h2 b hb; omega, h3, h4, hK0.trans h5⟩
 obtain ⟨q0, c0, rfl, _⟩ := hxs
 unfold wk at C ⊢
 clear h hP0 hK0 hs0 hg0 hls
 go_enter Tryz.func133, Tryz.ntmps133
 go_wp2_with fail
 refine C.out.mono ?_
 rintro e w2 ⟨N, v', rfl, h1, h2, h3, h4⟩
 have H2 : Hid ((∀ b, N b → w.heap.size ≤ b) ∧ PortIs (fun b => K b ∨ N b) w2 t p (rowP st xs).2 ∧ ListIs rVal 4 32 (fun b => D b ∨ N b) w2 v' (rowP st xs).1 ∧ Kept K w w2) := ⟨h1, h2, h3, h4⟩
 obtain ⟨q1, c1, hv, _⟩ := h3
 subst hv
 clear h1 h2 h4 C
 go_wp2_with fail
 go_ret
 exact ⟨N, _, rfl, H2.out⟩
theorem row_part (t p : Nat) : PartC rRow rowP 2069 t p 133 #[wk t p] := by
 intro K D w st cs x htb h hDK hrel hl
 obtain ⟨v, rfl, hv⟩ := hrel
 refine (row_any t p K D w st v x htb h hDK hv hl).mono ?_
 rintro e w' ⟨N, v', rfl, h1, h2, h3, h4⟩
 exact ⟨N, [v'], rfl, h1, h2, ⟨v', rfl, h3⟩, h4⟩
end Go.Proofs.YtajomnfeicfdlaaGreatDoor
