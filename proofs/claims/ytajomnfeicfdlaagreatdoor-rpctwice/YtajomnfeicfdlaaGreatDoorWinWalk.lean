/- The walk of RpcWindows. -/
import Derived.Test.YtajomnfeicfdlaaGreatDoorIn
import Derived.Test.YtajomnfeicfdlaaGreatDoorIiIjIkIm
namespace Go.Proofs.YtajomnfeicfdlaaGreatDoor
open Go.Shelf Go.RowKit Go.Lib
set_option linter.unusedVariables false
set_option linter.unusedSimpArgs false
attribute [local go_sem ↓] Go.wp_at_zero Go.wp_at_succ
theorem win_boxes (w : World) (v : Value) (y : Int × Int) : ∃ W0, (w.alloc (.cells #[v] 24)).alloc (.cells #[.int .u64 y.1, .int .u64 y.2] 27) = W0 ∧ Below w.heap.size w W0 ∧ W0.heap.size = w.heap.size + 2 ∧ W0.heap[w.heap.size]? = some (.cells #[v] 24 (0, 0)) ∧ BoxQ W0 (w.heap.size + 1) y := by
 refine ⟨_, rfl, ((Below.refl _ _).alloc (Nat.le_refl _) _).alloc (by simp) _, by simp, ?_, ?_⟩
 ·rw [hao _ _ _ (by simp)]; exact heap_alloc_new w _
 ·have := heap_alloc_new (w.alloc (.cells #[v] 24)) (.cells #[.int .u64 y.1, .int .u64 y.2] 27)
  simpa [BoxQ] using this
set_option maxRecDepth 100000 in
set_option maxHeartbeats 8000000 in
theorem windows_any (y : Int × Int) (v : Value) (xs : List (Int × Int)) (K : Nat → Prop) (w : World) (h : ListIs rQid 2 16 K w v xs) (hK : ∀ b, K b → b < w.heap.size) (hcp : CapIs v) (hT : Lib.Utf8Tabs 0 1 w) (h2 : 1 < w.heap.size) :
  Calls Tryz.prog 3 #[.agg #[v], .agg #[.int .u64 y.1, .int .u64 y.2]] w fun e w' => e = .returned (.bool true) ∧ Below w.heap.size w w' := by
 obtain ⟨W0, hW0, hb0, hs0, g0, g1⟩ := win_boxes w v y
 have HV : Hid (∀ V, Below W0.heap.size W0 V → V.cell? ⟨w.heap.size, 0, none⟩ = some v ∧ BoxQ V (w.heap.size + 1) y ∧ Below w.heap.size w V ∧ ListIs rQid 2 16 K V v xs ∧ (∀ b, K b → b < V.heap.size) ∧ Lib.Utf8Tabs 0 1 V ∧ 1 < V.heap.size) := fun V hb => by
  have hbw : Below w.heap.size w V := hb0.trans (hb.mono hb0.size)
  exact ⟨(hb.cell (p := ⟨w.heap.size, 0, none⟩) (by show w.heap.size < _; omega)).trans (cell_of_row g0 rfl), g1.below (by omega) hb, hbw, h.mono mQid (fun _ h => h) (kept_of hK hbw), fun b hk => Nat.lt_of_lt_of_le (hK b hk) hbw.size, Utf8Tabs.later hT h2 hbw, Nat.lt_of_lt_of_le h2 hbw.size⟩
 have HCP : Hid (CapIs v) := hcp
 have C1 := hid (put_any y v xs K W0 (HV.out W0 (Below.refl _ _)).2.2.2.1 (HV.out W0 (Below.refl _ _)).2.2.2.2.1 hcp)
 have C2 : Hid (∀ V, Below W0.heap.size W0 V → _) := fun V hb => refPut_any y v xs K V (HV.out V hb).2.2.2.1 (HV.out V hb).2.2.2.2.1 hcp
 obtain ⟨q0, c0, rfl, -, -⟩ := id h
 obtain ⟨y1, y2⟩ := y
 obtain ⟨k, hk⟩ : ∃ k, winE xs = k := ⟨_, rfl⟩
 obtain ⟨r, hr⟩ : ∃ r, decide ((y1, y2) ∈ xs) = r := ⟨_, rfl⟩
 have HKW : Hid (winE xs = k) := hk
 have HRR : Hid (decide ((y1, y2) ∈ xs) = r) := hr
 rw [hk] at C1 C2
 have r0 := cell_of_row (k := 0) g0 rfl
 have r1 := g1.c0
 have r2 := g1.c1
 simp only at hW0 r1 r2 C1 C2
 clear h hK hcp hT h2 hb0 hs0 g0 g1 hk hr
 go_enter Tryz.func3, Tryz.ntmps3
 go_wp2_with fail
 refine C1.out.mono ?_
 rintro e w1 ⟨q1, n1, c1, rfl, hc1, hl1, hb1⟩
 obtain ⟨w2, hw2, hb2, hg2, hs2⟩ := one_box w1 (.slice q1 n1 c1) 24
 have hB2 : Below W0.heap.size W0 w2 := hb1.trans (hb2.mono hb1.size)
 obtain ⟨t1, t2, -⟩ := HV.out w2 hB2
 have u1 := t2.c0
 have u2 := t2.c1
 have CC2 := hid (C2.out w2 hB2)
 have HB2 : Hid (Below W0.heap.size W0 w2) := hB2
 have HG2 : Hid (w2.heap[w1.heap.size]? = some (.cells #[.slice q1 n1 c1] 24 (0, 0)) ∧ w2.heap.size = w1.heap.size + 1) := ⟨hg2, hs2⟩
 have HL2 : Hid (ListIs rQid 2 16 (fun b => b < w1.heap.size) w2 (.slice q1 n1 c1) (putR (y1, y2) xs)) := hl1.mono mQid (fun b h => h.2) (kept_of (fun b h => h.2) hb2)
 simp only at u1 u2
 clear hb1 hl1 hb2 hg2 hs2 hB2 t2 C1 C2 r0 r1 r2 hc1
 go_wp2_with fail
 refine CC2.out.mono ?_
 rintro e w3 ⟨q3, n3, c3, rfl, hc3, hl3, hb3⟩
 obtain ⟨w4, hw4, hb4, hg4, hs4⟩ := one_box w3 (.slice q3 n3 c3) 24
 have hb24 : Below w2.heap.size w2 w4 := hb3.trans (hb4.mono hb3.size)
 have hB4 : Below W0.heap.size W0 w4 := HB2.out.trans (hb24.mono HB2.out.size)
 have hLA : ListIs rQid 2 16 (fun b => b < w3.heap.size) w4 (.slice q1 n1 c1) (putR (y1, y2) xs) := HL2.out.mono mQid (fun b h => by have := HG2.out.2; have := hb3.size; show b < _; have h' : b < w1.heap.size := h; omega) (kept_of (fun b h => by have := HG2.out.2; have h' : b < w1.heap.size := h; omega) hb24)
 have hLB : ListIs rQid 2 16 (fun b => b < w3.heap.size) w4 (.slice q3 n3 c3) (putR (y1, y2) xs) := hl3.mono mQid (fun b h => h.2) (kept_of (fun b h => h.2) hb4)
 have HW : Hid (∀ p : LaterS w4.heap.size w4, p.w.cell? ⟨w1.heap.size, 0, none⟩ = some (.slice q1 n1 c1) ∧ p.w.cell? ⟨w3.heap.size, 0, none⟩ = some (.slice q3 n3 c3) ∧ p.w.cell? ⟨w.heap.size, 0, none⟩ = some (.slice q0 xs.length c0) ∧ p.w.cell? ⟨w.heap.size + 1, 0, none⟩ = some (.int .u64 y1) ∧ p.w.cell? ⟨w.heap.size + 1, 1, none⟩ = some (.int .u64 y2) ∧ Below W0.heap.size W0 p.w) := fun p => by
  have hp : Below W0.heap.size W0 p.w := hB4.trans (p.h.mono hB4.size)
  obtain ⟨t1, t2, -⟩ := HV.out p.w hp
  have hlt : w1.heap.size < w2.heap.size := by have := HG2.out.2; omega
  exact ⟨(p.h.cell (p := ⟨w1.heap.size, 0, none⟩) (by show w1.heap.size < _; have := hb24.size; omega)).trans ((hb24.cell (p := ⟨w1.heap.size, 0, none⟩) hlt).trans (cell_of_row HG2.out.1 rfl)), (p.h.cell (p := ⟨w3.heap.size, 0, none⟩) (by show w3.heap.size < _; omega)).trans (cell_of_row hg4 rfl), t1, t2.c0, t2.c1, hp⟩
 have HB4 : Hid (Below W0.heap.size W0 w4) := hB4
 have c11 : Hid (∀ p : LaterS w4.heap.size w4, Calls Tryz.prog 11 #[] p.w fun e w' => e = .returned (.bool true) ∧ Below p.w.heap.size p.w w') := fun p => by
  obtain ⟨-, -, -, -, -, t6, t7⟩ := HV.out p.w (HW.out p).2.2.2.2.2
  exact lives_any p.w t6 t7
 have c12 : Hid (∀ p : LaterS w4.heap.size w4, Calls Tryz.prog 12 #[.agg #[.slice q1 n1 c1], .agg #[.slice q3 n3 c3]] p.w fun e w' => e = .returned (.bool true) ∧ Below p.w.heap.size p.w w') := fun p => by
  have := sameWindow_any _ _ _ _ _ p.w (hLA.mono mQid (fun _ h => h) (kept_of (fun b h => by have h' : b < w3.heap.size := h; omega) p.h)) (hLB.mono mQid (fun _ h => h) (kept_of (fun b h => by have h' : b < w3.heap.size := h; omega) p.h)) (fun b h => by have h' : b < w3.heap.size := h; have := p.h.size; omega)
  rw [decide_eq_true rfl] at this
  exact this
 have c13 : Hid (∀ p : LaterS w4.heap.size w4, Calls Tryz.prog 13 #[.agg #[.slice q0 xs.length c0], .agg #[.int .u64 y1, .int .u64 y2]] p.w fun e w' => e = .returned (.bool r) ∧ Below p.w.heap.size p.w w') := fun p => by
  obtain ⟨-, -, -, t4, t5, -, -⟩ := HV.out p.w (HW.out p).2.2.2.2.2
  rw [← HRR.out]
  exact has_any (y1, y2) _ xs K p.w t4 t5
 have c14 : Hid (∀ p : LaterS w4.heap.size w4, Calls Tryz.prog 14 #[.agg #[.slice q0 xs.length c0], .agg #[.int .u64 y1, .int .u64 y2]] p.w fun e w' => e = .returned (.bool r) ∧ Below p.w.heap.size p.w w') := fun p => by
  obtain ⟨-, -, -, t4, t5, -, -⟩ := HV.out p.w (HW.out p).2.2.2.2.2
  rw [← HRR.out]
  exact refHas_any (y1, y2) _ xs K p.w t4 t5
 have c15 : Hid (∀ p : LaterS w4.heap.size w4, Calls Tryz.prog 15 #[.agg #[.slice q0 xs.length c0]] p.w fun e w' => e = .returned (.int .i64 k) ∧ Below p.w.heap.size p.w w') := fun p => by
  obtain ⟨-, -, -, t4, t5, -, -⟩ := HV.out p.w (HW.out p).2.2.2.2.2
  rw [← HKW.out]
  exact checkWindow_any _ xs K p.w t4 t5 HCP.out
 have c16 : Hid (∀ p : LaterS w4.heap.size w4, Calls Tryz.prog 16 #[.agg #[.slice q0 xs.length c0]] p.w fun e w' => e = .returned (.int .i64 k) ∧ Below p.w.heap.size p.w w') := fun p => by
  obtain ⟨-, -, -, t4, t5, -, -⟩ := HV.out p.w (HW.out p).2.2.2.2.2
  rw [← HKW.out]
  exact refCheckWindow_any _ xs K p.w t4 t5 HCP.out
 clear hb3 hl3 hb4 hg4 hs4 hb24 hB4 hLA hLB HL2 HB2 CC2 t1 u1 u2 hc3 HG2 HCP HKW HRR
 go_wp2_with fail
 clear hw4 hw2 hW0
 have m0 := fun p => (HW.out p).1
 have m1 := fun p => (HW.out p).2.1
 have m2 := fun p => (HW.out p).2.2.1
 have m3 := fun p => (HW.out p).2.2.2.1
 have m4 := fun p => (HW.out p).2.2.2.2.1
 have inhL := laterInh
 refine wp_region_laterS mixedOnS (by kernel_rfl) ?_
 repeat (go_big_quiet_step (first | (go_at_call 11; exact calls_laterS (c11.out _)) | (go_at_call 12; exact calls_laterS (c12.out _)) | (go_at_call 13; exact calls_laterS (c13.out _)) | (go_at_call 14; exact calls_laterS (c14.out _)) | (go_at_call 15; exact calls_laterS (c15.out _)) | (go_at_call 16; exact calls_laterS (c16.out _))))
 refine wpQuiet_nil ?_
 intro w5 hw'
 obtain ⟨⟨wq, hwq⟩, hw''⟩ := hw'
 have e5 : w5 = wq := hw''
 subst e5
 have HB5 : Hid (Below w.heap.size w w5) := (HV.out w5 (HB4.out.trans (hwq.mono HB4.out.size))).2.2.1
 clear hw'' hwq m0 m1 m2 m3 m4 HW c11 c12 c13 c14 c15 c16
 go_wp2_with fail
 go_ret
 exact ⟨by simp, HB5.out⟩
end Go.Proofs.YtajomnfeicfdlaaGreatDoor
