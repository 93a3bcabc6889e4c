/- What the small fields do answers. -/
import Derived.Test.YtajomnfeicfdlaaGreatDoorWnWoWp
namespace Go.Proofs.YtajomnfeicfdlaaGreatDoor
open Go.Shelf Go.RowKit Go.Lib
set_option linter.unusedVariables false
set_option linter.unusedSimpArgs false
attribute [local go_sem ↓] Go.wp_at_zero Go.wp_at_succ
set_option maxRecDepth 100000 in
set_option maxHeartbeats 8000000 in
theorem boot_field (t p : Nat) : FieldC rNum 1 1 numP 10 t p 102 := by
 intro K D w st mb cur cs x htb hnk hbm hDK hlen hcur hrel h hl
 obtain ⟨hcs, hx⟩ := hrel
 replace hcs : cs = [Value.int .u64 (x : Int)] := hcs
 subst hcs
 have hmn := m_num h.isT p
 have egn := e_num h.isT
 obtain ⟨NF, hNF⟩ : ∃ F, nuF t = F := ⟨_, rfl⟩
 rw [hNF] at hmn egn
 have hml : mb < w.heap.size := (Array.getElem?_eq_some_iff.1 hbm).1
 obtain ⟨W0, hW0, hF0⟩ := Fm.start (lo := 1) h hnk hbm hcur
 obtain ⟨⟨a1, s1⟩, r1⟩ : ∃ q, numP st x = q := ⟨_, rfl⟩
 have g1 := grows_num st x
 rw [r1] at g1
 simp only at g1
 have n1 : a1 < 18446744073709551616 := by have := numP_lt st x (by first | assumption | omega); rw [r1] at this; exact this
 have C1 : Hid (Calls Tryz.prog NF #[.pointer (some ⟨p, 0, none⟩), .int .u64 (x : Int)] W0.drew fun e w' => e = .returned (.int .u64 (a1 : Int)) ∧ Fm K noB w t p mb 1 cur [Value.int .u64 (x : Int)] w' s1 ∧ Kept (fun b => K b ∨ noB b) W0.drew w') := by
  refine hF0.drew.call (R := fun e => e = .returned (.int .u64 (a1 : Int))) ?_
  have := num_any _ t p st x W0.drew hF0.drew.port (by first | assumption | omega) (by omega)
  rw [r1, hNF] at this
  exact this
 have cw1 : W0.drew.cell? ⟨w.heap.size, 0, none⟩ = _ := hF0.drew.cell0
 have cc1_0 : W0.drew.cell? ⟨mb, 1, none⟩ = _ := hF0.drew.cell1 (k := 1) (i := 0) rfl rfl
 have HF1 : Hid (Fm K noB w t p mb 1 cur [Value.int .u64 (x : Int)] W0 st) := hF0
 clear hF0
 show Calls Tryz.prog 102 #[.agg #[.iface t (.pointer (some ⟨p, 0, none⟩))], .pointer (some ⟨mb, 0, none⟩)] w _
 go_enter Tryz.func102, Tryz.ntmps102
 go_wp2_with fail
 refine via (A := fun WX => Fm K noB w t p mb 1 cur [Value.int .u64 (a1 : Int)] WX s1 ∧ Kept (fun b => K b ∨ noB b) W0 WX) (Q := ?Q1) (fun key => ?a1) ?b1
 case a1 =>
  go_region_with (go_at_fn NF; refine C1.out.mono ?_; rintro e w1 ⟨rfl, hF1a, hKa1⟩; have x1_0 := hF1a.cell1 (k := 1) (i := 0) rfl rfl; have z1_0 := hF1a.fz1 1; obtain ⟨W1_0, hW1_0, hF1_0, hK1_0⟩ := hF1a.set1 1 0 (Value.int .u64 (a1 : Int)) rfl (by simp); replace hF1_0 : Fm K noB w t p mb 1 cur [Value.int .u64 (a1 : Int)] W1_0 s1 := hF1_0)
  all_goals exact key _ ⟨hF1_0, (((Kept.refl _ _).drew.trans hKa1).trans hK1_0)⟩
 rintro W1 ⟨hF1b, hK1⟩
 clear C1 cw1 HF1 hK1 cc1_0
 have HG : Hid (Fm K noB w t p mb 1 cur [Value.int .u64 (a1 : Int)] W1 s1) := hF1b
 have HE : Hid (numP st x = (a1, s1)) := r1
 clear hF1b
 go_wp2_with fail
 go_end0
 obtain ⟨e1, ⟨cur', e2, e3⟩, e4, e5⟩ := HG.out.fin
 refine ⟨rfl, noB, cur', [Value.int .u64 (a1 : Int)], e1, e2, rfl, e3, ?_, ?_, e5⟩
 ·rw [HE.out]; exact ⟨rfl, n1⟩
 ·rw [HE.out]; exact e4
set_option maxRecDepth 100000 in
set_option maxHeartbeats 8000000 in
theorem seq_field (t p : Nat) : FieldC rNum 37 1 numP 10 t p 111 := by
 intro K D w st mb cur cs x htb hnk hbm hDK hlen hcur hrel h hl
 obtain ⟨hcs, hx⟩ := hrel
 replace hcs : cs = [Value.int .u64 (x : Int)] := hcs
 subst hcs
 have hmn := m_num h.isT p
 have egn := e_num h.isT
 obtain ⟨NF, hNF⟩ : ∃ F, nuF t = F := ⟨_, rfl⟩
 rw [hNF] at hmn egn
 have hml : mb < w.heap.size := (Array.getElem?_eq_some_iff.1 hbm).1
 obtain ⟨W0, hW0, hF0⟩ := Fm.start (lo := 37) h hnk hbm hcur
 obtain ⟨⟨a1, s1⟩, r1⟩ : ∃ q, numP st x = q := ⟨_, rfl⟩
 have g1 := grows_num st x
 rw [r1] at g1
 simp only at g1
 have n1 : a1 < 18446744073709551616 := by have := numP_lt st x (by first | assumption | omega); rw [r1] at this; exact this
 have C1 : Hid (Calls Tryz.prog NF #[.pointer (some ⟨p, 0, none⟩), .int .u64 (x : Int)] W0.drew fun e w' => e = .returned (.int .u64 (a1 : Int)) ∧ Fm K noB w t p mb 37 cur [Value.int .u64 (x : Int)] w' s1 ∧ Kept (fun b => K b ∨ noB b) W0.drew w') := by
  refine hF0.drew.call (R := fun e => e = .returned (.int .u64 (a1 : Int))) ?_
  have := num_any _ t p st x W0.drew hF0.drew.port (by first | assumption | omega) (by omega)
  rw [r1, hNF] at this
  exact this
 have cw1 : W0.drew.cell? ⟨w.heap.size, 0, none⟩ = _ := hF0.drew.cell0
 have cc1_0 : W0.drew.cell? ⟨mb, 37, none⟩ = _ := hF0.drew.cell1 (k := 37) (i := 0) rfl rfl
 have HF1 : Hid (Fm K noB w t p mb 37 cur [Value.int .u64 (x : Int)] W0 st) := hF0
 clear hF0
 show Calls Tryz.prog 111 #[.agg #[.iface t (.pointer (some ⟨p, 0, none⟩))], .pointer (some ⟨mb, 0, none⟩)] w _
 go_enter Tryz.func111, Tryz.ntmps111
 go_wp2_with fail
 refine via (A := fun WX => Fm K noB w t p mb 37 cur [Value.int .u64 (a1 : Int)] WX s1 ∧ Kept (fun b => K b ∨ noB b) W0 WX) (Q := ?Q1) (fun key => ?a1) ?b1
 case a1 =>
  go_region_with (go_at_fn NF; refine C1.out.mono ?_; rintro e w1 ⟨rfl, hF1a, hKa1⟩; have x1_0 := hF1a.cell1 (k := 37) (i := 0) rfl rfl; have z1_0 := hF1a.fz1 37; obtain ⟨W1_0, hW1_0, hF1_0, hK1_0⟩ := hF1a.set1 37 0 (Value.int .u64 (a1 : Int)) rfl (by simp); replace hF1_0 : Fm K noB w t p mb 37 cur [Value.int .u64 (a1 : Int)] W1_0 s1 := hF1_0)
  all_goals exact key _ ⟨hF1_0, (((Kept.refl _ _).drew.trans hKa1).trans hK1_0)⟩
 rintro W1 ⟨hF1b, hK1⟩
 clear C1 cw1 HF1 hK1 cc1_0
 have HG : Hid (Fm K noB w t p mb 37 cur [Value.int .u64 (a1 : Int)] W1 s1) := hF1b
 have HE : Hid (numP st x = (a1, s1)) := r1
 clear hF1b
 go_wp2_with fail
 go_end0
 obtain ⟨e1, ⟨cur', e2, e3⟩, e4, e5⟩ := HG.out.fin
 refine ⟨rfl, noB, cur', [Value.int .u64 (a1 : Int)], e1, e2, rfl, e3, ?_, ?_, e5⟩
 ·rw [HE.out]; exact ⟨rfl, n1⟩
 ·rw [HE.out]; exact e4
set_option maxRecDepth 100000 in
set_option maxHeartbeats 8000000 in
theorem attempt_field (t p : Nat) : FieldC rInt 4 1 longP 10 t p 104 := by
 intro K D w st mb cur cs x htb hnk hbm hDK hlen hcur hrel h hl
 obtain ⟨hcs, hx⟩ := hrel
 replace hcs : cs = [Value.int .i64 x] := hcs
 subst hcs
 have hml : mb < w.heap.size := (Array.getElem?_eq_some_iff.1 hbm).1
 obtain ⟨W0, hW0, hF0⟩ := Fm.start (lo := 4) h hnk hbm hcur
 obtain ⟨⟨a1, s1⟩, r1⟩ : ∃ q, longP st x = q := ⟨_, rfl⟩
 have g1 := grows_long st x
 rw [r1] at g1
 simp only at g1
 have n1 : I64 a1 := by have := longP_in st x (by assumption); rw [r1] at this; exact this
 have C1 : Hid (Calls Tryz.prog 120 #[.agg #[.iface t (.pointer (some ⟨p, 0, none⟩))], .int .i64 x] W0.drew fun e w' => e = .returned (.int .i64 a1) ∧ Fm K noB w t p mb 4 cur [Value.int .i64 x] w' s1 ∧ Kept (fun b => K b ∨ noB b) W0.drew w') := by
  refine hF0.drew.call (R := fun e => e = .returned (.int .i64 a1)) ?_
  have := whole_any _ t p st x W0.drew hF0.drew.port (by first | assumption | omega) (by omega)
  rw [r1] at this
  exact this
 have cw1 : W0.drew.cell? ⟨w.heap.size, 0, none⟩ = _ := hF0.drew.cell0
 have cc1_0 : W0.drew.cell? ⟨mb, 4, none⟩ = _ := hF0.drew.cell1 (k := 4) (i := 0) rfl rfl
 have HF1 : Hid (Fm K noB w t p mb 4 cur [Value.int .i64 x] W0 st) := hF0
 clear hF0
 show Calls Tryz.prog 104 #[.agg #[.iface t (.pointer (some ⟨p, 0, none⟩))], .pointer (some ⟨mb, 0, none⟩)] w _
 go_enter Tryz.func104, Tryz.ntmps104
 go_wp2_with fail
 refine via (A := fun WX => Fm K noB w t p mb 4 cur [Value.int .i64 a1] WX s1 ∧ Kept (fun b => K b ∨ noB b) W0 WX) (Q := ?Q1) (fun key => ?a1) ?b1
 case a1 =>
  go_region_with (go_at_call 120; refine C1.out.mono ?_; rintro e w1 ⟨rfl, hF1a, hKa1⟩; have x1_0 := hF1a.cell1 (k := 4) (i := 0) rfl rfl; have z1_0 := hF1a.fz1 4; obtain ⟨W1_0, hW1_0, hF1_0, hK1_0⟩ := hF1a.set1 4 0 (Value.int .i64 a1) rfl (by simp); replace hF1_0 : Fm K noB w t p mb 4 cur [Value.int .i64 a1] W1_0 s1 := hF1_0)
  all_goals exact key _ ⟨hF1_0, (((Kept.refl _ _).drew.trans hKa1).trans hK1_0)⟩
 rintro W1 ⟨hF1b, hK1⟩
 clear C1 cw1 HF1 hK1 cc1_0
 have HG : Hid (Fm K noB w t p mb 4 cur [Value.int .i64 a1] W1 s1) := hF1b
 have HE : Hid (longP st x = (a1, s1)) := r1
 clear hF1b
 go_wp2_with fail
 go_end0
 obtain ⟨e1, ⟨cur', e2, e3⟩, e4, e5⟩ := HG.out.fin
 refine ⟨rfl, noB, cur', [Value.int .i64 a1], e1, e2, rfl, e3, ?_, ?_, e5⟩
 ·rw [HE.out]; exact ⟨rfl, n1⟩
 ·rw [HE.out]; exact e4
set_option maxRecDepth 100000 in
set_option maxHeartbeats 8000000 in
theorem from_field (t p : Nat) : FieldC rInt 5 1 longP 10 t p 105 := by
 intro K D w st mb cur cs x htb hnk hbm hDK hlen hcur hrel h hl
 obtain ⟨hcs, hx⟩ := hrel
 replace hcs : cs = [Value.int .i64 x] := hcs
 subst hcs
 have hml : mb < w.heap.size := (Array.getElem?_eq_some_iff.1 hbm).1
 obtain ⟨W0, hW0, hF0⟩ := Fm.start (lo := 5) h hnk hbm hcur
 obtain ⟨⟨a1, s1⟩, r1⟩ : ∃ q, longP st x = q := ⟨_, rfl⟩
 have g1 := grows_long st x
 rw [r1] at g1
 simp only at g1
 have n1 : I64 a1 := by have := longP_in st x (by assumption); rw [r1] at this; exact this
 have C1 : Hid (Calls Tryz.prog 120 #[.agg #[.iface t (.pointer (some ⟨p, 0, none⟩))], .int .i64 x] W0.drew fun e w' => e = .returned (.int .i64 a1) ∧ Fm K noB w t p mb 5 cur [Value.int .i64 x] w' s1 ∧ Kept (fun b => K b ∨ noB b) W0.drew w') := by
  refine hF0.drew.call (R := fun e => e = .returned (.int .i64 a1)) ?_
  have := whole_any _ t p st x W0.drew hF0.drew.port (by first | assumption | omega) (by omega)
  rw [r1] at this
  exact this
 have cw1 : W0.drew.cell? ⟨w.heap.size, 0, none⟩ = _ := hF0.drew.cell0
 have cc1_0 : W0.drew.cell? ⟨mb, 5, none⟩ = _ := hF0.drew.cell1 (k := 5) (i := 0) rfl rfl
 have HF1 : Hid (Fm K noB w t p mb 5 cur [Value.int .i64 x] W0 st) := hF0
 clear hF0
 show Calls Tryz.prog 105 #[.agg #[.iface t (.pointer (some ⟨p, 0, none⟩))], .pointer (some ⟨mb, 0, none⟩)] w _
 go_enter Tryz.func105, Tryz.ntmps105
 go_wp2_with fail
 refine via (A := fun WX => Fm K noB w t p mb 5 cur [Value.int .i64 a1] WX s1 ∧ Kept (fun b => K b ∨ noB b) W0 WX) (Q := ?Q1) (fun key => ?a1) ?b1
 case a1 =>
  go_region_with (go_at_call 120; refine C1.out.mono ?_; rintro e w1 ⟨rfl, hF1a, hKa1⟩; have x1_0 := hF1a.cell1 (k := 5) (i := 0) rfl rfl; have z1_0 := hF1a.fz1 5; obtain ⟨W1_0, hW1_0, hF1_0, hK1_0⟩ := hF1a.set1 5 0 (Value.int .i64 a1) rfl (by simp); replace hF1_0 : Fm K noB w t p mb 5 cur [Value.int .i64 a1] W1_0 s1 := hF1_0)
  all_goals exact key _ ⟨hF1_0, (((Kept.refl _ _).drew.trans hKa1).trans hK1_0)⟩
 rintro W1 ⟨hF1b, hK1⟩
 clear C1 cw1 HF1 hK1 cc1_0
 have HG : Hid (Fm K noB w t p mb 5 cur [Value.int .i64 a1] W1 s1) := hF1b
 have HE : Hid (longP st x = (a1, s1)) := r1
 clear hF1b
 go_wp2_with fail
 go_end0
 obtain ⟨e1, ⟨cur', e2, e3⟩, e4, e5⟩ := HG.out.fin
 refine ⟨rfl, noB, cur', [Value.int .i64 a1], e1, e2, rfl, e3, ?_, ?_, e5⟩
 ·rw [HE.out]; exact ⟨rfl, n1⟩
 ·rw [HE.out]; exact e4
set_option maxRecDepth 100000 in
set_option maxHeartbeats 8000000 in
theorem to_field (t p : Nat) : FieldC rInt 6 1 longP 10 t p 106 := by
 intro K D w st mb cur cs x htb hnk hbm hDK hlen hcur hrel h hl
 obtain ⟨hcs, hx⟩ := hrel
 replace hcs : cs = [Value.int .i64 x] := hcs
 subst hcs
 have hml : mb < w.heap.size := (Array.getElem?_eq_some_iff.1 hbm).1
 obtain ⟨W0, hW0, hF0⟩ := Fm.start (lo := 6) h hnk hbm hcur
 obtain ⟨⟨a1, s1⟩, r1⟩ : ∃ q, longP st x = q := ⟨_, rfl⟩
 have g1 := grows_long st x
 rw [r1] at g1
 simp only at g1
 have n1 : I64 a1 := by have := longP_in st x (by assumption); rw [r1] at this; exact this
 have C1 : Hid (Calls Tryz.prog 120 #[.agg #[.iface t (.pointer (some ⟨p, 0, none⟩))], .int .i64 x] W0.drew fun e w' => e = .returned (.int .i64 a1) ∧ Fm K noB w t p mb 6 cur [Value.int .i64 x] w' s1 ∧ Kept (fun b => K b ∨ noB b) W0.drew w') := by
  refine hF0.drew.call (R := fun e => e = .returned (.int .i64 a1)) ?_
  have := whole_any _ t p st x W0.drew hF0.drew.port (by first | assumption | omega) (by omega)
  rw [r1] at this
  exact this
 have cw1 : W0.drew.cell? ⟨w.heap.size, 0, none⟩ = _ := hF0.drew.cell0
 have cc1_0 : W0.drew.cell? ⟨mb, 6, none⟩ = _ := hF0.drew.cell1 (k := 6) (i := 0) rfl rfl
 have HF1 : Hid (Fm K noB w t p mb 6 cur [Value.int .i64 x] W0 st) := hF0
 clear hF0
 show Calls Tryz.prog 106 #[.agg #[.iface t (.pointer (some ⟨p, 0, none⟩))], .pointer (some ⟨mb, 0, none⟩)] w _
 go_enter Tryz.func106, Tryz.ntmps106
 go_wp2_with fail
 refine via (A := fun WX => Fm K noB w t p mb 6 cur [Value.int .i64 a1] WX s1 ∧ Kept (fun b => K b ∨ noB b) W0 WX) (Q := ?Q1) (fun key => ?a1) ?b1
 case a1 =>
  go_region_with (go_at_call 120; refine C1.out.mono ?_; rintro e w1 ⟨rfl, hF1a, hKa1⟩; have x1_0 := hF1a.cell1 (k := 6) (i := 0) rfl rfl; have z1_0 := hF1a.fz1 6; obtain ⟨W1_0, hW1_0, hF1_0, hK1_0⟩ := hF1a.set1 6 0 (Value.int .i64 a1) rfl (by simp); replace hF1_0 : Fm K noB w t p mb 6 cur [Value.int .i64 a1] W1_0 s1 := hF1_0)
  all_goals exact key _ ⟨hF1_0, (((Kept.refl _ _).drew.trans hKa1).trans hK1_0)⟩
 rintro W1 ⟨hF1b, hK1⟩
 clear C1 cw1 HF1 hK1 cc1_0
 have HG : Hid (Fm K noB w t p mb 6 cur [Value.int .i64 a1] W1 s1) := hF1b
 have HE : Hid (longP st x = (a1, s1)) := r1
 clear hF1b
 go_wp2_with fail
 go_end0
 obtain ⟨e1, ⟨cur', e2, e3⟩, e4, e5⟩ := HG.out.fin
 refine ⟨rfl, noB, cur', [Value.int .i64 a1], e1, e2, rfl, e3, ?_, ?_, e5⟩
 ·rw [HE.out]; exact ⟨rfl, n1⟩
 ·rw [HE.out]; exact e4
set_option maxRecDepth 100000 in
set_option maxHeartbeats 8000000 in
theorem last_field (t p : Nat) : FieldC rBoo 38 1 flagP 1 t p 112 := by
 intro K D w st mb cur cs x htb hnk hbm hDK hlen hcur hrel h hl
 obtain ⟨hcs, _⟩ := hrel
 replace hcs : cs = [Value.bool x] := hcs
 subst hcs
 have hml : mb < w.heap.size := (Array.getElem?_eq_some_iff.1 hbm).1
 obtain ⟨W0, hW0, hF0⟩ := Fm.start (lo := 38) h hnk hbm hcur
 obtain ⟨⟨a1, s1⟩, r1⟩ : ∃ q, flagP st x = q := ⟨_, rfl⟩
 have g1 := grows_flag st x
 rw [r1] at g1
 simp only at g1
 have C1 : Hid (Calls Tryz.prog 125 #[.agg #[.iface t (.pointer (some ⟨p, 0, none⟩))], .bool x] W0.drew fun e w' => e = .returned (.bool a1) ∧ Fm K noB w t p mb 38 cur [Value.bool x] w' s1 ∧ Kept (fun b => K b ∨ noB b) W0.drew w') := by
  refine hF0.drew.call (R := fun e => e = .returned (.bool a1)) ?_
  have := flag_any _ t p st x W0.drew hF0.drew.port (by omega)
  rw [r1] at this
  exact this
 have cw1 : W0.drew.cell? ⟨w.heap.size, 0, none⟩ = _ := hF0.drew.cell0
 have cc1_0 : W0.drew.cell? ⟨mb, 38, none⟩ = _ := hF0.drew.cell1 (k := 38) (i := 0) rfl rfl
 have HF1 : Hid (Fm K noB w t p mb 38 cur [Value.bool x] W0 st) := hF0
 clear hF0
 show Calls Tryz.prog 112 #[.agg #[.iface t (.pointer (some ⟨p, 0, none⟩))], .pointer (some ⟨mb, 0, none⟩)] w _
 go_enter Tryz.func112, Tryz.ntmps112
 go_wp2_with fail
 refine via (A := fun WX => Fm K noB w t p mb 38 cur [Value.bool a1] WX s1 ∧ Kept (fun b => K b ∨ noB b) W0 WX) (Q := ?Q1) (fun key => ?a1) ?b1
 case a1 =>
  go_region_with (go_at_call 125; refine C1.out.mono ?_; rintro e w1 ⟨rfl, hF1a, hKa1⟩; have x1_0 := hF1a.cell1 (k := 38) (i := 0) rfl rfl; have z1_0 := hF1a.fz1 38; obtain ⟨W1_0, hW1_0, hF1_0, hK1_0⟩ := hF1a.set1 38 0 (Value.bool a1) rfl (by simp); replace hF1_0 : Fm K noB w t p mb 38 cur [Value.bool a1] W1_0 s1 := hF1_0)
  all_goals exact key _ ⟨hF1_0, (((Kept.refl _ _).drew.trans hKa1).trans hK1_0)⟩
 rintro W1 ⟨hF1b, hK1⟩
 clear C1 cw1 HF1 hK1 cc1_0
 have HG : Hid (Fm K noB w t p mb 38 cur [Value.bool a1] W1 s1) := hF1b
 have HE : Hid (flagP st x = (a1, s1)) := r1
 clear hF1b
 go_wp2_with fail
 go_end0
 obtain ⟨e1, ⟨cur', e2, e3⟩, e4, e5⟩ := HG.out.fin
 refine ⟨rfl, noB, cur', [Value.bool a1], e1, e2, rfl, e3, ?_, ?_, e5⟩
 ·rw [HE.out]; exact ⟨rfl, trivial⟩
 ·rw [HE.out]; exact e4
set_option maxRecDepth 100000 in
set_option maxHeartbeats 8000000 in
theorem query_field (t p : Nat) : FieldC rVrs 2 2 vrsP 20 t p 103 := by
 intro K D w st mb cur cs ⟨xb, xl⟩ htb hnk hbm hDK hlen hcur hrel h hl
 obtain ⟨hcs, hb1, hl1⟩ := hrel
 simp only at hb1 hl1
 replace hcs : cs = [Value.int .u64 (xb : Int), Value.int .u64 (xl : Int)] := hcs
 subst hcs
 have hmn := m_num h.isT p
 have egn := e_num h.isT
 obtain ⟨NF, hNF⟩ : ∃ F, nuF t = F := ⟨_, rfl⟩
 rw [hNF] at hmn egn
 have hml : mb < w.heap.size := (Array.getElem?_eq_some_iff.1 hbm).1
 obtain ⟨W0, hW0, hF0⟩ := Fm.start (lo := 2) h hnk hbm hcur
 obtain ⟨⟨a1, s1⟩, r1⟩ : ∃ q, numP st xb = q := ⟨_, rfl⟩
 have g1 := grows_num st xb
 rw [r1] at g1
 simp only at g1
 have n1 : a1 < 18446744073709551616 := by have := numP_lt st xb (by first | assumption | omega); rw [r1] at this; exact this
 have C1 : Hid (Calls Tryz.prog NF #[.pointer (some ⟨p, 0, none⟩), .int .u64 (xb : Int)] W0.drew fun e w' => e = .returned (.int .u64 (a1 : Int)) ∧ Fm K noB w t p mb 2 cur [Value.int .u64 (xb : Int), Value.int .u64 (xl : Int)] w' s1 ∧ Kept (fun b => K b ∨ noB b) W0.drew w') := by
  refine hF0.drew.call (R := fun e => e = .returned (.int .u64 (a1 : Int))) ?_
  have := num_any _ t p st xb W0.drew hF0.drew.port (by first | assumption | omega) (by omega)
  rw [r1, hNF] at this
  exact this
 have cw1 : W0.drew.cell? ⟨w.heap.size, 0, none⟩ = _ := hF0.drew.cell0
 have cc1_0 : W0.drew.cell? ⟨mb, 2, none⟩ = _ := hF0.drew.cell1 (k := 2) (i := 0) rfl rfl
 have HF1 : Hid (Fm K noB w t p mb 2 cur [Value.int .u64 (xb : Int), Value.int .u64 (xl : Int)] W0 st) := hF0
 clear hF0
 show Calls Tryz.prog 103 #[.agg #[.iface t (.pointer (some ⟨p, 0, none⟩))], .pointer (some ⟨mb, 0, none⟩)] w _
 go_enter Tryz.func103, Tryz.ntmps103
 go_wp2_with fail
 refine via (A := fun WX => Fm K noB w t p mb 2 cur [Value.int .u64 (a1 : Int), Value.int .u64 (xl : Int)] WX s1 ∧ Kept (fun b => K b ∨ noB b) W0 WX) (Q := ?Q1) (fun key => ?a1) ?b1
 case a1 =>
  go_region_with (go_at_fn NF; refine C1.out.mono ?_; rintro e w1 ⟨rfl, hF1a, hKa1⟩; have x1_0 := hF1a.cell1 (k := 2) (i := 0) rfl rfl; have z1_0 := hF1a.fz1 2; obtain ⟨W1_0, hW1_0, hF1_0, hK1_0⟩ := hF1a.set1 2 0 (Value.int .u64 (a1 : Int)) rfl (by simp); replace hF1_0 : Fm K noB w t p mb 2 cur [Value.int .u64 (a1 : Int), Value.int .u64 (xl : Int)] W1_0 s1 := hF1_0)
  all_goals exact key _ ⟨hF1_0, (((Kept.refl _ _).drew.trans hKa1).trans hK1_0)⟩
 rintro W1 ⟨hF1b, hK1⟩
 clear C1 cw1 HF1 hK1 cc1_0
 obtain ⟨⟨a2, s2⟩, r2⟩ : ∃ q, numP s1 xl = q := ⟨_, rfl⟩
 have g2 := grows_num s1 xl
 rw [r2] at g2
 simp only at g2
 have n2 : a2 < 18446744073709551616 := by have := numP_lt s1 xl (by first | assumption | omega); rw [r2] at this; exact this
 have C2 : Hid (Calls Tryz.prog NF #[.pointer (some ⟨p, 0, none⟩), .int .u64 (xl : Int)] W1.drew fun e w' => e = .returned (.int .u64 (a2 : Int)) ∧ Fm K noB w t p mb 2 cur [Value.int .u64 (a1 : Int), Value.int .u64 (xl : Int)] w' s2 ∧ Kept (fun b => K b ∨ noB b) W1.drew w') := by
  refine hF1b.drew.call (R := fun e => e = .returned (.int .u64 (a2 : Int))) ?_
  have := num_any _ t p s1 xl W1.drew hF1b.drew.port (by first | assumption | omega) (by omega)
  rw [r2, hNF] at this
  exact this
 have cw2 : W1.drew.cell? ⟨w.heap.size, 0, none⟩ = _ := hF1b.drew.cell0
 have cc2_0 : W1.drew.cell? ⟨mb, 3, none⟩ = _ := hF1b.drew.cell1 (k := 3) (i := 1) rfl rfl
 have HF2 : Hid (Fm K noB w t p mb 2 cur [Value.int .u64 (a1 : Int), Value.int .u64 (xl : Int)] W1 s1) := hF1b
 clear hF1b
 go_wp2_with fail
 refine via (A := fun WX => Fm K noB w t p mb 2 cur [Value.int .u64 (a1 : Int), Value.int .u64 (a2 : Int)] WX s2 ∧ Kept (fun b => K b ∨ noB b) W1 WX) (Q := ?Q2) (fun key => ?a2) ?b2
 case a2 =>
  go_region_with (go_at_fn NF; refine C2.out.mono ?_; rintro e w2 ⟨rfl, hF2a, hKa2⟩; have x2_0 := hF2a.cell1 (k := 3) (i := 1) rfl rfl; have z2_0 := hF2a.fz1 3; obtain ⟨W2_0, hW2_0, hF2_0, hK2_0⟩ := hF2a.set1 3 1 (Value.int .u64 (a2 : Int)) rfl (by simp); replace hF2_0 : Fm K noB w t p mb 2 cur [Value.int .u64 (a1 : Int), Value.int .u64 (a2 : Int)] W2_0 s2 := hF2_0)
  all_goals exact key _ ⟨hF2_0, (((Kept.refl _ _).drew.trans hKa2).trans hK2_0)⟩
 rintro W2 ⟨hF2b, hK2⟩
 clear C2 cw2 HF2 hK2 cc2_0
 have HG : Hid (Fm K noB w t p mb 2 cur [Value.int .u64 (a1 : Int), Value.int .u64 (a2 : Int)] W2 s2) := hF2b
 have HE : Hid (vrsP st ⟨xb, xl⟩ = (⟨a1, a2⟩, s2)) := by show _ = _; simp only [vrsP, r1, r2]
 clear hF2b
 go_wp2_with fail
 go_end0
 obtain ⟨e1, ⟨cur', e2, e3⟩, e4, e5⟩ := HG.out.fin
 refine ⟨rfl, noB, cur', [Value.int .u64 (a1 : Int), Value.int .u64 (a2 : Int)], e1, e2, rfl, e3, ?_, ?_, e5⟩
 ·rw [HE.out]; exact ⟨rfl, n1, n2⟩
 ·rw [HE.out]; exact e4
end Go.Proofs.YtajomnfeicfdlaaGreatDoor
