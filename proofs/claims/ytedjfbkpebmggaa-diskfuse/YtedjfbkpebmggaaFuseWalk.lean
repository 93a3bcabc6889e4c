/- The law DiskFuse returns true, of any fuse. -/
import Derived.Test.YtedjfbkpebmggaaAgainWalk
namespace Go.Proofs.Ytedjfbkpebmggaa
open Go.Shelf Go.RowKit Go.Lib Go.Sort
set_option linter.unusedVariables false
set_option linter.unusedSimpArgs false
attribute [local go_sem ↓] Go.wp_at_zero Go.wp_at_succ
def fuA : List DF := [⟨⟨#[97]⟩, ⟨#[120]⟩, 0⟩]
/-- The files behind i changes. -/
def fuF : Nat → List DF
  | 0 => []
  | _ + 1 => fuA
theorem fu_ok : ∀ i, okF (fuF i) = true
  | 0 => by kernel_rfl
  | _ + 1 => by show okF fuA = true; kernel_rfl
theorem fu_chgE : ∀ i, chgE (fuF i) 1 ⟨#[97]⟩ ⟨#[]⟩ ⟨#[120]⟩ = 0
  | 0 => by kernel_rfl
  | _ + 1 => by show chgE fuA 1 ⟨#[97]⟩ ⟨#[]⟩ ⟨#[120]⟩ = 0; kernel_rfl
theorem fu_chgF : ∀ i, chgF (fuF i) 1 ⟨#[97]⟩ ⟨#[]⟩ ⟨#[120]⟩ = fuA
  | 0 => by kernel_rfl
  | _ + 1 => by show chgF fuA 1 ⟨#[97]⟩ ⟨#[]⟩ ⟨#[120]⟩ = fuA; kernel_rfl
theorem fu_small : ∀ i, ((fuF i).length + 1) * 40 ≤ 140737488355328
  | 0 => by simp [fuF]
  | _ + 1 => by simp [fuF, fuA]
theorem fu_step (F i : Nat) : DoR (fuF i) (decide (F < i)) ((F - i : Nat) : Int) 1 ⟨#[97]⟩ ⟨#[]⟩ ⟨#[120]⟩ = ⟨fuF (i + 1), decide (F < i + 1), ((F - (i + 1) : Nat) : Int), if i < F then 0 else 12⟩ := by
  unfold DoR
  rw [if_pos (fu_ok i)]
  unfold doR
  rw [if_neg (by omega)]
  by_cases h : F < i
  · obtain ⟨j, rfl⟩ : ∃ j, i = j + 1 := ⟨i - 1, by omega⟩
    rw [if_pos (by simpa using h)]
    have e1 : decide (F < j + 1) = decide (F < j + 1 + 1) := by rw [decide_eq_true h, decide_eq_true (by omega)]
    have e2 : F - (j + 1) = F - (j + 1 + 1) := by omega
    rw [if_neg (by omega), e1, e2]
    rfl
  · rw [if_neg (by simpa using h), fu_chgE, if_neg (by simp), fu_chgF]
    have ea : fuF (i + 1) = fuA := rfl
    by_cases h0 : i < F
    · have e0 : ¬ ((F - i : Nat) : Int) = 0 := by omega
      rw [if_neg (fun h => e0 h.1), if_neg e0, if_neg e0, if_pos (by omega), if_pos h0, ea, decide_eq_false (by omega)]
      congr 1; omega
    · have e0 : ((F - i : Nat) : Int) = 0 := by omega
      rw [if_neg (fun h => h.2 rfl), if_pos e0, if_pos e0, if_neg (by omega), if_neg h0, ea, decide_eq_true (by omega)]
      congr 1; omega
set_option maxRecDepth 100000 in
set_option maxHeartbeats 4000000 in
theorem fuse_core (F : Nat) (many : Int) (w : World) (hF : F ≤ 255) :
    Calls Try.prog 8 #[.int .u8 F, .int .i64 many] w fun e w' => e = .returned (.bool true) ∧ Below w.heap.size w w' := by
  have CL : Hid (∀ W, Calls Try.prog 16 #[] W fun e w' => e = .returned (.bool true) ∧ Below W.heap.size W w') := lives_any
  have CP : Hid (∀ W, Calls Try.prog 21 #[.string ⟨#[97]⟩, .string ⟨#[120]⟩] W fun e w' => e = .returned (.agg #[.int .u8 1, .string ⟨#[97]⟩, .string ⟨#[]⟩, .string ⟨#[120]⟩]) ∧ Below W.heap.size W w') := fun W => lput_any _ _ W
  have CD : Hid (∀ (i : Nat) p n c W, FsL W (.slice p n c) (fuF i) → Calls Try.prog 10 #[.agg #[.slice p n c, .bool (decide (F < i)), .int .i64 ((F - i : Nat) : Int)], .agg #[.int .u8 1, .string ⟨#[97]⟩, .string ⟨#[]⟩, .string ⟨#[120]⟩]] W fun e w' => Did ⟨fuF (i + 1), decide (F < i + 1), ((F - (i + 1) : Nat) : Int), if i < F then 0 else 12⟩ W e w') := fun i p n c W h => by
    rw [← fu_step]
    exact Do_any _ _ _ _ _ _ _ _ W h (fu_small i) (by omega) (Nat.le_of_ble_eq_true rfl) (Nat.le_of_ble_eq_true rfl) (Nat.le_of_ble_eq_true rfl)
  have q0 : IntKind.i64.wrap (F : Int) = (F : Int) := by rw [IntKind.wrap_i64]; omega
  go_enter Try.func8, Try.ntmps8
  go_wp2_with fail
  refine (CL.out _).mono ?_
  rintro e w1 ⟨rfl, hb1⟩
  obtain ⟨W2, hW2⟩ : ∃ W2, w1.alloc (.cells #[.slice none 0 0, .bool false, .int .i64 (F : Int)] 24) = W2 := ⟨_, rfl⟩
  have HJ0 : Hid (DJ w w1.heap.size (fuF 0) (decide (F < 0)) ((F - 0 : Nat) : Int) W2) := by
    refine ⟨none, 0, 0, by rw [← hW2]; exact heap_alloc_new w1 _, ⟨none, 0, rfl, by simp [fuF], fun f hf => by simp [fuF] at hf, fun h => by simp [fuF] at h⟩, by rw [← hW2]; exact hb1.alloc hb1.size _⟩
  have HW1 : Hid (w.heap.size ≤ w1.heap.size) := hb1.size
  clear hb1
  go_wp2_with fail
  go_loopg [6] 300 (fun gf s6 wx => ∃ i : Nat, s6 = .int .i64 i ∧ i ≤ 300 ∧ 300 ≤ i + gf ∧ Hid (DJ w w1.heap.size (fuF i) (decide (F < i)) ((F - i : Nat) : Int) wx))
  case atStart => exact ⟨0, rfl, by omega, by omega, HJ0⟩
  case round =>
    clear HJ0
    obtain ⟨i, rfl, hi1, hgf, HJ⟩ := hrel
    by_cases hm : (i : Int) < many ∧ i < 300
    · obtain ⟨hm1, hm2⟩ := hm
      obtain ⟨g', rfl⟩ : ∃ g', gk = g' + 1 := ⟨gk - 1, by omega⟩
      have hm3 : (i : Int) < 300 := by omega
      obtain ⟨p, n, c, hg, hl, hb⟩ := HJ.out
      have hgl : w1.heap.size < wr.heap.size := (Array.getElem?_eq_some_iff.1 hg).1
      have a0 : wr.drew.cell? ⟨w1.heap.size, 0, none⟩ = some (.slice p n c) := cell_of_row (W := wr.drew) (k := 0) hg rfl
      have a1 : wr.drew.cell? ⟨w1.heap.size, 1, none⟩ = some (.bool (decide (F < i))) := cell_of_row (W := wr.drew) (k := 1) hg rfl
      have a2 : wr.drew.cell? ⟨w1.heap.size, 2, none⟩ = some (.int .i64 ((F - i : Nat) : Int)) := cell_of_row (W := wr.drew) (k := 2) hg rfl
      have HCD : Hid (∀ W, Below wr.heap.size wr W → Calls Try.prog 10 #[.agg #[.slice p n c, .bool (decide (F < i)), .int .i64 ((F - i : Nat) : Int)], .agg #[.int .u8 1, .string ⟨#[97]⟩, .string ⟨#[]⟩, .string ⟨#[120]⟩]] W fun e w' => Did ⟨fuF (i + 1), decide (F < i + 1), ((F - (i + 1) : Nat) : Int), if i < F then 0 else 12⟩ W e w') := fun W hb => CD.out i p n c W (hl.below hb)
      obtain ⟨dn, hdn⟩ : ∃ dn, decide (F < i) = dn := ⟨_, rfl⟩
      obtain ⟨fu, hfu⟩ : ∃ fu, ((F - i : Nat) : Int) = fu := ⟨_, rfl⟩
      obtain ⟨fu', hfu'⟩ : ∃ fu, ((F - (i + 1) : Nat) : Int) = fu := ⟨_, rfl⟩
      rw [hdn] at a1
      rw [hfu] at a2
      rw [hdn, hfu, hfu'] at HCD
      clear hl HJ CD
      by_cases hiF : i < F
      · have hdn' : decide (F < i + 1) = false := decide_eq_false (by omega)
        have hve : (if i < F then (0 : Int) else 12) = 0 := if_pos hiF
        have HVE : Hid (decide (F < i + 1) = false ∧ ((F - (i + 1) : Nat) : Int) = fu') := ⟨hdn', hfu'⟩
        rw [hdn', hve] at HCD
        have q1 : (i : Int) < (F : Int) := by omega
        clear hve hdn' hfu'
        have HG : Hid (wr.heap[w1.heap.size]? = some (.cells #[.slice p n c, .bool (decide (F < i)), .int .i64 ((F - i : Nat) : Int)] 24 (0, 0)) ∧ Below w.heap.size w wr) := ⟨hg, hb⟩
        clear hg hb hdn hfu
        go_wp2_with fail
        go_region_held3 (fun w' => w'.cell? ⟨w1.heap.size, 0, none⟩ = some (.slice p n c) ∧ w'.cell? ⟨w1.heap.size, 1, none⟩ = some (.bool dn) ∧ w'.cell? ⟨w1.heap.size, 2, none⟩ = some (.int .i64 fu))
          (first
            | (go_split_ands; refine ⟨?_, ?_, ?_⟩ <;> (first
              | (rw [hBv.cell (p := ⟨w1.heap.size, _, none⟩) hgl]; first | exact a0 | exact a1 | exact a2)
              | (rw [hBx.cell (p := ⟨w1.heap.size, _, none⟩) hgl]; first | exact a0 | exact a1 | exact a2)
              | (rw [hBa.cell (p := ⟨w1.heap.size, _, none⟩) hgl]; first | exact a0 | exact a1 | exact a2)
              | (rw [(one_below wb _).cell (p := ⟨w1.heap.size, _, none⟩) (Nat.lt_of_lt_of_le hgl hBx.size), hBx.cell (p := ⟨w1.heap.size, _, none⟩) hgl]; first | exact a0 | exact a1 | exact a2)
              | (rw [(one_below wa _).cell (p := ⟨w1.heap.size, _, none⟩) (Nat.lt_of_lt_of_le hgl hBa.size), hBa.cell (p := ⟨w1.heap.size, _, none⟩) hgl]; first | exact a0 | exact a1 | exact a2)
              | (rw [((one_below wr _).drew).cell (p := ⟨w1.heap.size, _, none⟩) hgl]; first | exact a0 | exact a1 | exact a2)
              | (rw [(one_below wr _).cell (p := ⟨w1.heap.size, _, none⟩) hgl]; first | exact a0 | exact a1 | exact a2)))
            | go_keep)
          ((first
            | (go_at_call 21; refine (CP.out _).mono ?_; rintro e wa ⟨rfl, hBa0⟩; first
              | (have hBa : Below wr.heap.size wr wa := (Below.refl _ wr).drew.trans hBa0; clear hBa0)
              | (have hz : wa.heap[wr.heap.size]? = some (.cells #[.slice none 0 0, .bool false, .int .i64 0] 24 (0, 0)) := (by rw [hBa0.block _ (by simp)]; exact heap_alloc_new wr _); have hBa : Below wr.heap.size wr wa := ((one_below wr _).drew).trans (hBa0.mono (by simp)); clear hBa0))
            | (go_at_call 10; first
              | (refine (HCD.out _ hBa).mono ?_; rintro e wb ⟨pb, nb, cb, rfl, hLb, hBb⟩; have hBx : Below wr.heap.size wr wb := hBa.trans (hBb.mono hBa.size); first
                | (have hz2 : wb.heap[wr.heap.size]? = some (.cells #[.slice none 0 0, .bool false, .int .i64 0] 24 (0, 0)) := (by rw [hBb.block _ (Array.getElem?_eq_some_iff.1 hz).1]; exact hz); clear hz; obtain ⟨Va, Vb, Vc, hVa, hVb, hVc, ⟨oa, ca⟩, fa, ⟨ob, cbb⟩, fb, ⟨oc, cc⟩, fc, hbv, hgv, s0, s1, s2⟩ := set_disk hz2 (.slice pb nb cb) (.bool false) (.int .i64 fu'); obtain ⟨ov1, ov2⟩ := set3_other hVa hVb hVc; have hLv : FsL Vc (.slice pb nb cb) (fuF (i + 1)) := hLb.but hz2 ov1 ov2; have hBv : Below wr.heap.size wr Vc := hbv _ _ hBx (by exact Nat.le_refl _); clear hbv hgv ov1 ov2 hz2)
                | skip)
              | (refine (HCD.out _ (hBa.alloc hBa.size _)).mono ?_; rintro e wb ⟨pb, nb, cb, rfl, hLb, hBb⟩; have hBx : Below wr.heap.size wr wb := (hBa.alloc hBa.size _).trans (hBb.mono (hBa.alloc hBa.size _).size); have hz2 : wb.heap[wa.heap.size]? = some (.cells #[.slice none 0 0, .bool false, .int .i64 0] 24 (0, 0)) := (by rw [hBb.block _ (by simp)]; exact heap_alloc_new wa _); obtain ⟨Va, Vb, Vc, hVa, hVb, hVc, ⟨oa, ca⟩, fa, ⟨ob, cbb⟩, fb, ⟨oc, cc⟩, fc, hbv, hgv, s0, s1, s2⟩ := set_disk hz2 (.slice pb nb cb) (.bool false) (.int .i64 fu'); obtain ⟨ov1, ov2⟩ := set3_other hVa hVb hVc; have hLv : FsL Vc (.slice pb nb cb) (fuF (i + 1)) := hLb.but hz2 ov1 ov2; have hBv : Below wr.heap.size wr Vc := hbv _ _ hBx (by exact hBa.size); clear hbv hgv ov1 ov2 hz2))))
        all_goals first
          | (have hBz : Below wr.heap.size wr (wb.alloc (.cells #[.slice pb nb cb, .bool false, .int .i64 fu'] 24)) := hBx.alloc hBx.size _
             have hLz : FsL (wb.alloc (.cells #[.slice pb nb cb, .bool false, .int .i64 fu'] 24)) (.slice pb nb cb) (fuF (i + 1)) := hLb.below (one_below wb _)
             obtain ⟨WZ, hWZ⟩ : ∃ WZ, wb.alloc (.cells #[.slice pb nb cb, .bool false, .int .i64 fu'] 24) = WZ := ⟨_, rfl⟩
             have hgz : WZ.heap[wb.heap.size]? = some (.cells #[.slice pb nb cb, .bool false, .int .i64 fu'] 24 (0, 0)) := by rw [← hWZ]; exact heap_alloc_new wb _
             rw [hWZ] at hBz hLz ⊢
             have f0 : WZ.cell? ⟨wb.heap.size, 0, none⟩ = some (.slice pb nb cb) := cell_of_row (k := 0) hgz rfl
             have f1 : WZ.cell? ⟨wb.heap.size, 1, none⟩ = some (.bool false) := cell_of_row (k := 1) hgz rfl
             have f2 : WZ.cell? ⟨wb.heap.size, 2, none⟩ = some (.int .i64 fu') := cell_of_row (k := 2) hgz rfl
             have hgo : WZ.heap[w1.heap.size]? = some (.cells #[.slice p n c, .bool (decide (F < i)), .int .i64 ((F - i : Nat) : Int)] 24 (0, 0)) := by rw [hBz.block _ hgl]; exact HG.out.1
             obtain ⟨Ua, Ub, Uc, hUa, hUb, hUc, ⟨pa, ka⟩, ga, ⟨pbb, kb⟩, gb, ⟨pc, kc⟩, gc, hbu, hgu, r0, r1, r2⟩ := set_disk hgo (.slice pb nb cb) (.bool false) (.int .i64 fu')
             obtain ⟨o5, o6⟩ := set3_other hUa hUb hUc
             clear hLb hBb hBx hBa a0 a1 a2 hgz HCD
             have HJ2 : Hid (DJ w w1.heap.size (fuF (i + 1)) (decide (F < i + 1)) ((F - (i + 1) : Nat) : Int) Uc) := by
               rw [HVE.out.1, HVE.out.2]
               exact ⟨pb, nb, cb, hgu, hLz.but hgo o5 o6, hbu _ _ (HG.out.2.trans (hBz.mono HG.out.2.size)) HW1.out⟩
             clear hLz hgo o5 o6 hbu hgu hBz
             go_wp2_with fail
             go_roundg g'
             case measure => omega
             case rel => exact ⟨i + 1, by go_num, by omega, by omega, HJ2⟩)
          | (have hgo : Vc.heap[w1.heap.size]? = some (.cells #[.slice p n c, .bool (decide (F < i)), .int .i64 ((F - i : Nat) : Int)] 24 (0, 0)) := by rw [hBv.block _ hgl]; exact HG.out.1
             have hBz := hBv
             have hLz := hLv
             obtain ⟨Ua, Ub, Uc, hUa, hUb, hUc, ⟨pa, ka⟩, ga, ⟨pbb, kb⟩, gb, ⟨pc, kc⟩, gc, hbu, hgu, r0, r1, r2⟩ := set_disk hgo (.slice pb nb cb) (.bool false) (.int .i64 fu')
             obtain ⟨o5, o6⟩ := set3_other hUa hUb hUc
             clear hLb hBb hBx hBa a0 a1 a2 hLv hBv HCD
             have HJ2 : Hid (DJ w w1.heap.size (fuF (i + 1)) (decide (F < i + 1)) ((F - (i + 1) : Nat) : Int) Uc) := by
               rw [HVE.out.1, HVE.out.2]
               exact ⟨pb, nb, cb, hgu, hLz.but hgo o5 o6, hbu _ _ (HG.out.2.trans (hBz.mono HG.out.2.size)) HW1.out⟩
             clear hLz hgo o5 o6 hbu hgu hBz
             go_wp2_with fail
             go_roundg g'
             case measure => omega
             case rel => exact ⟨i + 1, by go_num, by omega, by omega, HJ2⟩)
      · have hdn' : decide (F < i + 1) = true := decide_eq_true (by omega)
        have hve : (if i < F then (0 : Int) else 12) = 12 := if_neg hiF
        have HVE : Hid (decide (F < i + 1) = true ∧ ((F - (i + 1) : Nat) : Int) = fu') := ⟨hdn', hfu'⟩
        rw [hdn', hve] at HCD
        have q1 : ¬ (i : Int) < (F : Int) := by omega
        clear hve hdn' hfu'
        have HG : Hid (wr.heap[w1.heap.size]? = some (.cells #[.slice p n c, .bool (decide (F < i)), .int .i64 ((F - i : Nat) : Int)] 24 (0, 0)) ∧ Below w.heap.size w wr) := ⟨hg, hb⟩
        clear hg hb hdn hfu
        go_wp2_with fail
        go_region_held3 (fun w' => w'.cell? ⟨w1.heap.size, 0, none⟩ = some (.slice p n c) ∧ w'.cell? ⟨w1.heap.size, 1, none⟩ = some (.bool dn) ∧ w'.cell? ⟨w1.heap.size, 2, none⟩ = some (.int .i64 fu))
          (first
            | (go_split_ands; refine ⟨?_, ?_, ?_⟩ <;> (first
              | (rw [hBv.cell (p := ⟨w1.heap.size, _, none⟩) hgl]; first | exact a0 | exact a1 | exact a2)
              | (rw [hBx.cell (p := ⟨w1.heap.size, _, none⟩) hgl]; first | exact a0 | exact a1 | exact a2)
              | (rw [hBa.cell (p := ⟨w1.heap.size, _, none⟩) hgl]; first | exact a0 | exact a1 | exact a2)
              | (rw [(one_below wb _).cell (p := ⟨w1.heap.size, _, none⟩) (Nat.lt_of_lt_of_le hgl hBx.size), hBx.cell (p := ⟨w1.heap.size, _, none⟩) hgl]; first | exact a0 | exact a1 | exact a2)
              | (rw [(one_below wa _).cell (p := ⟨w1.heap.size, _, none⟩) (Nat.lt_of_lt_of_le hgl hBa.size), hBa.cell (p := ⟨w1.heap.size, _, none⟩) hgl]; first | exact a0 | exact a1 | exact a2)
              | (rw [((one_below wr _).drew).cell (p := ⟨w1.heap.size, _, none⟩) hgl]; first | exact a0 | exact a1 | exact a2)
              | (rw [(one_below wr _).cell (p := ⟨w1.heap.size, _, none⟩) hgl]; first | exact a0 | exact a1 | exact a2)))
            | go_keep)
          ((first
            | (go_at_call 21; refine (CP.out _).mono ?_; rintro e wa ⟨rfl, hBa0⟩; first
              | (have hBa : Below wr.heap.size wr wa := (Below.refl _ wr).drew.trans hBa0; clear hBa0)
              | (have hz : wa.heap[wr.heap.size]? = some (.cells #[.slice none 0 0, .bool false, .int .i64 0] 24 (0, 0)) := (by rw [hBa0.block _ (by simp)]; exact heap_alloc_new wr _); have hBa : Below wr.heap.size wr wa := ((one_below wr _).drew).trans (hBa0.mono (by simp)); clear hBa0))
            | (go_at_call 10; first
              | (refine (HCD.out _ hBa).mono ?_; rintro e wb ⟨pb, nb, cb, rfl, hLb, hBb⟩; have hBx : Below wr.heap.size wr wb := hBa.trans (hBb.mono hBa.size); first
                | (have hz2 : wb.heap[wr.heap.size]? = some (.cells #[.slice none 0 0, .bool false, .int .i64 0] 24 (0, 0)) := (by rw [hBb.block _ (Array.getElem?_eq_some_iff.1 hz).1]; exact hz); clear hz; obtain ⟨Va, Vb, Vc, hVa, hVb, hVc, ⟨oa, ca⟩, fa, ⟨ob, cbb⟩, fb, ⟨oc, cc⟩, fc, hbv, hgv, s0, s1, s2⟩ := set_disk hz2 (.slice pb nb cb) (.bool true) (.int .i64 fu'); obtain ⟨ov1, ov2⟩ := set3_other hVa hVb hVc; have hLv : FsL Vc (.slice pb nb cb) (fuF (i + 1)) := hLb.but hz2 ov1 ov2; have hBv : Below wr.heap.size wr Vc := hbv _ _ hBx (by exact Nat.le_refl _); clear hbv hgv ov1 ov2 hz2)
                | skip)
              | (refine (HCD.out _ (hBa.alloc hBa.size _)).mono ?_; rintro e wb ⟨pb, nb, cb, rfl, hLb, hBb⟩; have hBx : Below wr.heap.size wr wb := (hBa.alloc hBa.size _).trans (hBb.mono (hBa.alloc hBa.size _).size); have hz2 : wb.heap[wa.heap.size]? = some (.cells #[.slice none 0 0, .bool false, .int .i64 0] 24 (0, 0)) := (by rw [hBb.block _ (by simp)]; exact heap_alloc_new wa _); obtain ⟨Va, Vb, Vc, hVa, hVb, hVc, ⟨oa, ca⟩, fa, ⟨ob, cbb⟩, fb, ⟨oc, cc⟩, fc, hbv, hgv, s0, s1, s2⟩ := set_disk hz2 (.slice pb nb cb) (.bool true) (.int .i64 fu'); obtain ⟨ov1, ov2⟩ := set3_other hVa hVb hVc; have hLv : FsL Vc (.slice pb nb cb) (fuF (i + 1)) := hLb.but hz2 ov1 ov2; have hBv : Below wr.heap.size wr Vc := hbv _ _ hBx (by exact hBa.size); clear hbv hgv ov1 ov2 hz2))))
        all_goals first
          | (have hBz : Below wr.heap.size wr (wb.alloc (.cells #[.slice pb nb cb, .bool true, .int .i64 fu'] 24)) := hBx.alloc hBx.size _
             have hLz : FsL (wb.alloc (.cells #[.slice pb nb cb, .bool true, .int .i64 fu'] 24)) (.slice pb nb cb) (fuF (i + 1)) := hLb.below (one_below wb _)
             obtain ⟨WZ, hWZ⟩ : ∃ WZ, wb.alloc (.cells #[.slice pb nb cb, .bool true, .int .i64 fu'] 24) = WZ := ⟨_, rfl⟩
             have hgz : WZ.heap[wb.heap.size]? = some (.cells #[.slice pb nb cb, .bool true, .int .i64 fu'] 24 (0, 0)) := by rw [← hWZ]; exact heap_alloc_new wb _
             rw [hWZ] at hBz hLz ⊢
             have f0 : WZ.cell? ⟨wb.heap.size, 0, none⟩ = some (.slice pb nb cb) := cell_of_row (k := 0) hgz rfl
             have f1 : WZ.cell? ⟨wb.heap.size, 1, none⟩ = some (.bool true) := cell_of_row (k := 1) hgz rfl
             have f2 : WZ.cell? ⟨wb.heap.size, 2, none⟩ = some (.int .i64 fu') := cell_of_row (k := 2) hgz rfl
             have hgo : WZ.heap[w1.heap.size]? = some (.cells #[.slice p n c, .bool (decide (F < i)), .int .i64 ((F - i : Nat) : Int)] 24 (0, 0)) := by rw [hBz.block _ hgl]; exact HG.out.1
             obtain ⟨Ua, Ub, Uc, hUa, hUb, hUc, ⟨pa, ka⟩, ga, ⟨pbb, kb⟩, gb, ⟨pc, kc⟩, gc, hbu, hgu, r0, r1, r2⟩ := set_disk hgo (.slice pb nb cb) (.bool true) (.int .i64 fu')
             obtain ⟨o5, o6⟩ := set3_other hUa hUb hUc
             clear hLb hBb hBx hBa a0 a1 a2 hgz HCD
             have HJ2 : Hid (DJ w w1.heap.size (fuF (i + 1)) (decide (F < i + 1)) ((F - (i + 1) : Nat) : Int) Uc) := by
               rw [HVE.out.1, HVE.out.2]
               exact ⟨pb, nb, cb, hgu, hLz.but hgo o5 o6, hbu _ _ (HG.out.2.trans (hBz.mono HG.out.2.size)) HW1.out⟩
             clear hLz hgo o5 o6 hbu hgu hBz
             go_wp2_with fail
             go_roundg g'
             case measure => omega
             case rel => exact ⟨i + 1, by go_num, by omega, by omega, HJ2⟩)
          | (have hgo : Vc.heap[w1.heap.size]? = some (.cells #[.slice p n c, .bool (decide (F < i)), .int .i64 ((F - i : Nat) : Int)] 24 (0, 0)) := by rw [hBv.block _ hgl]; exact HG.out.1
             have hBz := hBv
             have hLz := hLv
             obtain ⟨Ua, Ub, Uc, hUa, hUb, hUc, ⟨pa, ka⟩, ga, ⟨pbb, kb⟩, gb, ⟨pc, kc⟩, gc, hbu, hgu, r0, r1, r2⟩ := set_disk hgo (.slice pb nb cb) (.bool true) (.int .i64 fu')
             obtain ⟨o5, o6⟩ := set3_other hUa hUb hUc
             clear hLb hBb hBx hBa a0 a1 a2 hLv hBv HCD
             have HJ2 : Hid (DJ w w1.heap.size (fuF (i + 1)) (decide (F < i + 1)) ((F - (i + 1) : Nat) : Int) Uc) := by
               rw [HVE.out.1, HVE.out.2]
               exact ⟨pb, nb, cb, hgu, hLz.but hgo o5 o6, hbu _ _ (HG.out.2.trans (hBz.mono HG.out.2.size)) HW1.out⟩
             clear hLz hgo o5 o6 hbu hgu hBz
             go_wp2_with fail
             go_roundg g'
             case measure => omega
             case rel => exact ⟨i + 1, by go_num, by omega, by omega, HJ2⟩)
    · have HB : Hid (Below w.heap.size w wr) := by obtain ⟨_, _, _, _, _, hb⟩ := HJ.out; exact hb
      clear HJ
      by_cases h1 : (i : Int) < many
      · have h2 : ¬ (i : Int) < 300 := by omega
        clear hm
        go_wp2_with fail
        go_ret
        exact ⟨rfl, HB.out⟩
      · clear hm
        go_wp2_with fail
        go_ret
        exact ⟨rfl, HB.out⟩
end Go.Proofs.Ytedjfbkpebmggaa
