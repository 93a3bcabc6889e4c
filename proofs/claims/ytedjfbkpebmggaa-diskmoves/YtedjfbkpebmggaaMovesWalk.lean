/- The law DiskMoves returns true, of any disk, names and number. -/
import Derived.Test.YtedjfbkpebmggaaDy
namespace Go.Proofs.Ytedjfbkpebmggaa
open Go.Shelf Go.RowKit Go.Lib Go.Sort
set_option linter.unusedVariables false
set_option linter.unusedSimpArgs false
attribute [local go_sem ↓] Go.wp_at_zero Go.wp_at_succ
set_option maxRecDepth 100000 in
set_option maxHeartbeats 4000000 in
theorem moves_core (v : Value) (dn : Bool) (fu keep : Int) (nm tt : ByteArray) (fs : List DF) (w : World) (h : FsL w v fs) (hm : (fs.length + 1) * 40 ≤ 140737488355328) (hr : -9223372036854775808 ≤ fu ∧ fu ≤ 9223372036854775807)
    (h1 : nm.size ≤ 140737488355328) (h2 : tt.size ≤ 140737488355328) :
    Calls Try.prog 6 #[.agg #[v, .bool dn, .int .i64 fu], .string nm, .string tt, .int .i64 keep] w fun e w' => e = .returned (.bool true) ∧ Below w.heap.size w w' := by
  obtain ⟨W0, hW0, hb0, hs0, hx⟩ := box24 w v dn fu
  have HX : Hid _ := hx
  have HB0 : Hid (Below w.heap.size w W0) := hb0
  have CL : Hid (∀ W, Calls Try.prog 16 #[] W fun e w' => e = .returned (.bool true) ∧ Below W.heap.size W w') := lives_any
  have CM : Hid (∀ W, Calls Try.prog 20 #[.string nm, .string tt] W fun e w' => e = .returned (.agg #[.int .u8 3, .string nm, .string tt, .string ⟨#[]⟩]) ∧ Below W.heap.size W w') := fun W => lmove_any nm tt W
  have CD : Hid (∀ W, Below w.heap.size w W → Calls Try.prog 10 #[.agg #[v, .bool dn, .int .i64 fu], .agg #[.int .u8 3, .string nm, .string tt, .string ⟨#[]⟩]] W fun e w' => Did (DoR fs dn fu 3 nm tt ⟨#[]⟩) W e w') := fun W hb => Do_any v dn fu 3 nm tt ⟨#[]⟩ fs W (h.below hb) hm hr h1 h2 (Nat.le_of_ble_eq_true rfl)
  have CR : Hid (∀ W, Below w.heap.size w W → Calls Try.prog 12 #[.agg #[v, .bool dn, .int .i64 fu], .string nm] W fun e w' => e = .returned (.tuple #[.string (rdS fs dn nm), .int .i64 (rdE fs dn nm)]) ∧ Below W.heap.size W w') := fun W hb => Read_any v dn fu nm fs W (h.below hb)
  have CC : Hid (∀ W, Below w.heap.size w W → Calls Try.prog 14 #[.agg #[v, .bool dn, .int .i64 fu], .int .i64 keep] W fun e w' => Did (CrR fs keep) W e w') := fun W hb => Crash_any v dn fu keep fs W (h.below hb)
  have hways := moves_ways fs dn fu keep nm tt
  obtain ⟨R, hRR⟩ : ∃ R, DoR fs dn fu 3 nm tt ⟨#[]⟩ = R := ⟨_, rfl⟩
  rw [hRR] at CD hways
  obtain ⟨rfs, rdn, rfu, re⟩ := R
  simp only at hways
  have HW : Hid _ := hways
  obtain ⟨p, c, rfl, _⟩ := h
  obtain ⟨sr, hsr⟩ : ∃ sr, rdS fs dn nm = sr := ⟨_, rfl⟩
  obtain ⟨er, her⟩ : ∃ er, rdE fs dn nm = er := ⟨_, rfl⟩
  rw [hsr, her] at CR HW
  clear hx hb0 h1 h2 hm hr hways hRR hsr her
  go_enter Try.func6, Try.ntmps6
  go_wp2_with fail
  refine (CL.out _).mono ?_
  rintro e w1 ⟨rfl, hb1⟩
  obtain ⟨a0, a1, a2⟩ := HX.out w1 hb1
  have HB1 : Hid (Below W0.heap.size W0 w1) := hb1
  have R1 := CR.out w1 (HB0.out.trans (hb1.mono HB0.out.size))
  have HR1 : Hid (Calls Try.prog 12 #[.agg #[.slice p fs.length c, .bool dn, .int .i64 fu], .string nm] w1 fun e w' => e = .returned (.tuple #[.string sr, .int .i64 er]) ∧ Below w1.heap.size w1 w') := R1
  clear hb1 R1 CR CL
  go_wp2_with fail
  refine HR1.out.mono ?_
  rintro e wr ⟨rfl, hb2⟩
  have hBr : Below W0.heap.size W0 wr := HB1.out.trans (hb2.mono HB1.out.size)
  obtain ⟨x0, x1, x2⟩ := HX.out wr hBr
  have a0 : wr.drew.cell? ⟨w.heap.size, 0, none⟩ = some (.slice p fs.length c) := x0
  have a1 : wr.drew.cell? ⟨w.heap.size, 1, none⟩ = some (.bool dn) := x1
  have a2 : wr.drew.cell? ⟨w.heap.size, 2, none⟩ = some (.int .i64 fu) := x2
  have hgl : w.heap.size < wr.heap.size := Nat.lt_of_lt_of_le (by omega) hBr.size
  have HBR : Hid (Below W0.heap.size W0 wr) := hBr
  have HCD : Hid (∀ W, Below wr.heap.size wr W → Calls Try.prog 10 #[.agg #[.slice p fs.length c, .bool dn, .int .i64 fu], .agg #[.int .u8 3, .string nm, .string tt, .string ⟨#[]⟩]] W fun e w' => Did ⟨rfs, rdn, rfu, re⟩ W e w') := fun W hb => CD.out W (HB0.out.trans ((HBR.out.trans (hb.mono HBR.out.size)).mono HB0.out.size))
  clear hBr hb2 x0 x1 x2 HR1 CD HB1 hs0
  go_wp2_with fail
  go_region_held3 (fun w' => w'.cell? ⟨w.heap.size, 0, none⟩ = some (.slice p fs.length c) ∧ w'.cell? ⟨w.heap.size, 1, none⟩ = some (.bool dn) ∧ w'.cell? ⟨w.heap.size, 2, none⟩ = some (.int .i64 fu))
    (first
      | (go_split_ands; refine ⟨?_, ?_, ?_⟩ <;> (first
        | (rw [hBv.cell (p := ⟨w.heap.size, _, none⟩) hgl]; first | exact a0 | exact a1 | exact a2)
        | (rw [hBx.cell (p := ⟨w.heap.size, _, none⟩) hgl]; first | exact a0 | exact a1 | exact a2)
        | (rw [hBa.cell (p := ⟨w.heap.size, _, none⟩) hgl]; first | exact a0 | exact a1 | exact a2)
        | (rw [(one_below wb _).cell (p := ⟨w.heap.size, _, none⟩) (Nat.lt_of_lt_of_le hgl hBx.size), hBx.cell (p := ⟨w.heap.size, _, none⟩) hgl]; first | exact a0 | exact a1 | exact a2)
        | (rw [(one_below wa _).cell (p := ⟨w.heap.size, _, none⟩) (Nat.lt_of_lt_of_le hgl hBa.size), hBa.cell (p := ⟨w.heap.size, _, none⟩) hgl]; first | exact a0 | exact a1 | exact a2)
        | (rw [((one_below wr _).drew).cell (p := ⟨w.heap.size, _, none⟩) hgl]; first | exact a0 | exact a1 | exact a2)
        | (rw [(one_below wr _).cell (p := ⟨w.heap.size, _, none⟩) hgl]; first | exact a0 | exact a1 | exact a2)))
      | go_keep)
    ((first
      | (go_at_call 20; refine (CM.out _).mono ?_; rintro e wa ⟨rfl, hBa0⟩; first
        | (have hBa : Below wr.heap.size wr wa := (Below.refl _ wr).drew.trans hBa0; clear hBa0)
        | (have hz : wa.heap[wr.heap.size]? = some (.cells #[.slice none 0 0, .bool false, .int .i64 0] 24 (0, 0)) := (by rw [hBa0.block _ (by simp)]; exact heap_alloc_new wr _); have hBa : Below wr.heap.size wr wa := ((one_below wr _).drew).trans (hBa0.mono (by simp)); clear hBa0))
      | (go_at_call 10; first
        | (refine (HCD.out _ hBa).mono ?_; rintro e wb ⟨pb, nb, cb, rfl, hLb, hBb⟩; have hBx : Below wr.heap.size wr wb := hBa.trans (hBb.mono hBa.size); first
          | (have hz2 : wb.heap[wr.heap.size]? = some (.cells #[.slice none 0 0, .bool false, .int .i64 0] 24 (0, 0)) := (by rw [hBb.block _ (Array.getElem?_eq_some_iff.1 hz).1]; exact hz); clear hz; obtain ⟨Va, Vb, Vc, hVa, hVb, hVc, ⟨oa, ca⟩, fa, ⟨ob, cbb⟩, fb, ⟨oc, cc⟩, fc, hbv, hgv, s0, s1, s2⟩ := set_disk hz2 (.slice pb nb cb) (.bool rdn) (.int .i64 rfu); obtain ⟨ov1, ov2⟩ := set3_other hVa hVb hVc; have hLv : FsL Vc (.slice pb nb cb) rfs := hLb.but hz2 ov1 ov2; have hBv : Below wr.heap.size wr Vc := hbv _ _ hBx (by exact Nat.le_refl _); have HGV : Hid (Vc.heap[wr.heap.size]? = some (.cells #[.slice pb nb cb, .bool rdn, .int .i64 rfu] 24 (0, 0))) := hgv; clear hbv hgv ov1 ov2 hz2)
          | skip)
        | (refine (HCD.out _ (hBa.alloc hBa.size _)).mono ?_; rintro e wb ⟨pb, nb, cb, rfl, hLb, hBb⟩; have hBx : Below wr.heap.size wr wb := (hBa.alloc hBa.size _).trans (hBb.mono (hBa.alloc hBa.size _).size); have hz2 : wb.heap[wa.heap.size]? = some (.cells #[.slice none 0 0, .bool false, .int .i64 0] 24 (0, 0)) := (by rw [hBb.block _ (by simp)]; exact heap_alloc_new wa _); obtain ⟨Va, Vb, Vc, hVa, hVb, hVc, ⟨oa, ca⟩, fa, ⟨ob, cbb⟩, fb, ⟨oc, cc⟩, fc, hbv, hgv, s0, s1, s2⟩ := set_disk hz2 (.slice pb nb cb) (.bool rdn) (.int .i64 rfu); obtain ⟨ov1, ov2⟩ := set3_other hVa hVb hVc; have hLv : FsL Vc (.slice pb nb cb) rfs := hLb.but hz2 ov1 ov2; have hBv : Below wr.heap.size wr Vc := hbv _ _ hBx (by exact hBa.size); have HGV : Hid (Vc.heap[wa.heap.size]? = some (.cells #[.slice pb nb cb, .bool rdn, .int .i64 rfu] 24 (0, 0))) := hgv; clear hbv hgv ov1 ov2 hz2))))
  · obtain ⟨WZ, hWZ⟩ : ∃ WZ, wb.alloc (.cells #[.slice pb nb cb, .bool rdn, .int .i64 rfu] 24) = WZ := ⟨_, rfl⟩
    have hgz : WZ.heap[wb.heap.size]? = some (.cells #[.slice pb nb cb, .bool rdn, .int .i64 rfu] 24 (0, 0)) := by rw [← hWZ]; exact heap_alloc_new wb _
    have hBz : Below wr.heap.size wr WZ := by rw [← hWZ]; exact hBx.alloc hBx.size _
    have hLz : FsL WZ (.slice pb nb cb) rfs := by rw [← hWZ]; exact hLb.below (one_below wb _)
    rw [hWZ]
    clear hWZ hLb hBb hBx hBa
    generalize wb.heap.size = gz at hgz ⊢
    obtain rfl := hLz.len
    have hBZ : Below W0.heap.size W0 WZ := HBR.out.trans (hBz.mono HBR.out.size)
    obtain ⟨y0, y1, y2⟩ := HX.out WZ hBZ
    have f0 : WZ.cell? ⟨gz, 0, none⟩ = some (.slice pb rfs.length cb) := cell_of_row (k := 0) hgz rfl
    have f1 : WZ.cell? ⟨gz, 1, none⟩ = some (.bool rdn) := cell_of_row (k := 1) hgz rfl
    have f2 : WZ.cell? ⟨gz, 2, none⟩ = some (.int .i64 rfu) := cell_of_row (k := 2) hgz rfl
    have HZ : Hid (WZ.heap[gz]? = some (.cells #[.slice pb rfs.length cb, .bool rdn, .int .i64 rfu] 24 (0, 0)) ∧ FsL WZ (.slice pb rfs.length cb) rfs ∧ Below W0.heap.size W0 WZ) := ⟨hgz, hLz, hBZ⟩
    clear hgz hLz hBz hBZ a0 a1 a2 HCD hgl
    rcases HW.out with ⟨t1, t2⟩ | ⟨t1, t2, t3, t4, t5, t6, t7, t8, t9, t10, t11, t12⟩
    · have z1 : (re != 0) = true := bne_iff_ne.2 t1
      have HBE : Hid (Below w.heap.size w WZ) := HB0.out.trans (HZ.out.2.2.mono HB0.out.size)
      rcases t2 with t2 | ⟨t2, t3⟩ | ⟨t2, t3, t4⟩
      · have z2 : (er != 0) = true := bne_iff_ne.2 t2
        clear t1 t2 HW
        go_wp2_with fail
        go_ret
        exact ⟨rfl, HBE.out⟩
      · subst t2 t3
        clear t1 HW
        go_wp2_with fail
        go_ret
        exact ⟨rfl, HBE.out⟩
      · obtain ⟨n1, n2⟩ := ne_empty t3
        subst t2 t4
        clear t1 t3 HW
        go_wp2_with fail
        go_ret
        exact ⟨rfl, HBE.out⟩
    · subst t1 t2 t3 t6
      have HT : Hid (OkF fs ∧ OkF rfs ∧ rdE rfs false tt = 0 ∧ rdS rfs false tt = sr ∧ rdE (fs.map (crF keep)) false nm = 0 ∧ rdE (rfs.map (crF keep)) false tt = 0 ∧ rdS (rfs.map (crF keep)) false tt = rdS (fs.map (crF keep)) false nm) := ⟨t4, t5, t7, t8, t10, t11, t12⟩
      have HT9 : Hid ((rdE rfs false nm = 0 ∧ nm = tt) ∨ (rdE rfs false nm = 7 ∧ nm ≠ tt)) := t9
      have R2 := Read_any (.slice pb rfs.length cb) false rfu tt rfs WZ HZ.out.2.1
      rw [t7, t8] at R2
      have HR2 : Hid (Calls Try.prog 12 #[.agg #[.slice pb rfs.length cb, .bool false, .int .i64 rfu], .string tt] WZ fun e w' => e = .returned (.tuple #[.string sr, .int .i64 0]) ∧ Below WZ.heap.size WZ w') := R2
      clear t4 t5 t7 t8 t9 t10 t11 t12 R2 HW
      go_wp2_with fail
      refine HR2.out.mono ?_
      rintro e w5 ⟨rfl, hb5⟩
      obtain ⟨j1, j2, j3⟩ := HZ.out
      have hg5 : w5.heap[gz]? = some (.cells #[.slice pb rfs.length cb, .bool false, .int .i64 rfu] 24 (0, 0)) := by rw [hb5.block _ (Array.getElem?_eq_some_iff.1 j1).1]; exact j1
      have f0 : w5.cell? ⟨gz, 0, none⟩ = some (.slice pb rfs.length cb) := cell_of_row (k := 0) hg5 rfl
      have f1 : w5.cell? ⟨gz, 1, none⟩ = some (.bool false) := cell_of_row (k := 1) hg5 rfl
      have f2 : w5.cell? ⟨gz, 2, none⟩ = some (.int .i64 rfu) := cell_of_row (k := 2) hg5 rfl
      have HZ5 : Hid (w5.heap[gz]? = some (.cells #[.slice pb rfs.length cb, .bool false, .int .i64 rfu] 24 (0, 0)) ∧ FsL w5 (.slice pb rfs.length cb) rfs ∧ Below W0.heap.size W0 w5) := ⟨hg5, j2.below hb5, j3.trans (hb5.mono j3.size)⟩
      obtain ⟨e4, he4⟩ : ∃ e4, rdE rfs false nm = e4 := ⟨_, rfl⟩
      obtain ⟨s4, hs4⟩ : ∃ s4, rdS rfs false nm = s4 := ⟨_, rfl⟩
      have R3 := Read_any (.slice pb rfs.length cb) false rfu nm rfs w5 HZ5.out.2.1
      rw [he4, hs4] at R3
      have HR3 : Hid (Calls Try.prog 12 #[.agg #[.slice pb rfs.length cb, .bool false, .int .i64 rfu], .string nm] w5 fun e w' => e = .returned (.tuple #[.string s4, .int .i64 e4]) ∧ Below w5.heap.size w5 w') := R3
      have hq : (e4 == 0) = (nm.toList == tt.toList) := by
        rcases HT9.out with ⟨u1, u2⟩ | ⟨u1, u2⟩
        · rw [← he4, u1, u2, eq_self]; rfl
        · rw [← he4, u1]
          cases e : (nm.toList == tt.toList) with
          | false => rfl
          | true => exact absurd (eqB_iff.1 e) u2
      obtain ⟨qq, hqq⟩ : ∃ qq, (nm.toList == tt.toList) = qq := ⟨_, rfl⟩
      rw [hqq] at hq
      have es : (sr.toList == sr.toList) = true := eq_self sr
      have eb : (qq != qq) = false := by simp
      clear j1 j2 j3 hb5 hg5 HR2 R3 he4 hs4 y0 y1 y2 HZ
      go_wp2_with fail
      refine HR3.out.mono ?_
      rintro e w6 ⟨rfl, hb6⟩
      obtain ⟨j1, j2, j3⟩ := HZ5.out
      have hg6 : w6.heap[gz]? = some (.cells #[.slice pb rfs.length cb, .bool false, .int .i64 rfu] 24 (0, 0)) := by rw [hb6.block _ (Array.getElem?_eq_some_iff.1 j1).1]; exact j1
      have HZ6 : Hid (w6.heap[gz]? = some (.cells #[.slice pb rfs.length cb, .bool false, .int .i64 rfu] 24 (0, 0)) ∧ FsL w6 (.slice pb rfs.length cb) rfs ∧ Below W0.heap.size W0 w6) := ⟨hg6, j2.below hb6, j3.trans (hb6.mono j3.size)⟩
      obtain ⟨y0, y1, y2⟩ := HX.out w6 HZ6.out.2.2
      obtain ⟨gs, hgs⟩ : ∃ gs, fs.map (crF keep) = gs := ⟨_, rfl⟩
      obtain ⟨rs, hrs⟩ : ∃ rs, rfs.map (crF keep) = rs := ⟨_, rfl⟩
      have K1 := CC.out w6 (HB0.out.trans (HZ6.out.2.2.mono HB0.out.size))
      rw [show CrR fs keep = ⟨gs, false, -1, 0⟩ by unfold CrR; rw [if_pos (okF_iff.2 HT.out.1), hgs]] at K1
      have HK1 : Hid (Calls Try.prog 14 #[.agg #[.slice p fs.length c, .bool false, .int .i64 fu], .int .i64 keep] w6 fun e w' => Did ⟨gs, false, -1, 0⟩ w6 e w') := K1
      have HK2 : Hid (∀ W, FsL W (.slice pb rfs.length cb) rfs → Calls Try.prog 14 #[.agg #[.slice pb rfs.length cb, .bool false, .int .i64 rfu], .int .i64 keep] W fun e w' => Did ⟨rs, false, -1, 0⟩ W e w') := fun W hl => by
        have := Crash_any (.slice pb rfs.length cb) false rfu keep rfs W hl
        rw [show CrR rfs keep = ⟨rs, false, -1, 0⟩ by unfold CrR; rw [if_pos (okF_iff.2 HT.out.2.1), hrs]] at this
        exact this
      have HV : Hid (rdE gs false nm = 0 ∧ rdE rs false tt = 0 ∧ rdS rs false tt = rdS gs false nm) := by rw [← hgs, ← hrs]; exact HT.out.2.2.2.2
      clear j1 j2 j3 hb6 hg6 HR3 HZ5 K1 hgs hrs f0 f1 f2 CC HT
      go_wp2_with fail
      refine HK1.out.mono ?_
      rintro e w7 ⟨p7, n7, c7, rfl, hl7, hb7⟩
      simp only at hl7
      obtain ⟨W8, hW8⟩ : ∃ W8, w7.alloc (.cells #[.slice p7 n7 c7, .bool false, .int .i64 (-1)] 24) = W8 := ⟨_, rfl⟩
      have hb8 : Below w7.heap.size w7 W8 := by rw [← hW8]; exact one_below _ _
      have hg8 : W8.heap[w7.heap.size]? = some (.cells #[.slice p7 n7 c7, .bool false, .int .i64 (-1)] 24 (0, 0)) := by rw [← hW8]; exact heap_alloc_new w7 _
      obtain ⟨j1, j2, j3⟩ := HZ6.out
      have hb68 : Below w6.heap.size w6 W8 := hb7.trans (hb8.mono hb7.size)
      have hz8 : W8.heap[gz]? = some (.cells #[.slice pb rfs.length cb, .bool false, .int .i64 rfu] 24 (0, 0)) := by rw [hb68.block _ (Array.getElem?_eq_some_iff.1 j1).1]; exact j1
      have f0 : W8.cell? ⟨gz, 0, none⟩ = some (.slice pb rfs.length cb) := cell_of_row (k := 0) hz8 rfl
      have f1 : W8.cell? ⟨gz, 1, none⟩ = some (.bool false) := cell_of_row (k := 1) hz8 rfl
      have f2 : W8.cell? ⟨gz, 2, none⟩ = some (.int .i64 rfu) := cell_of_row (k := 2) hz8 rfl
      have HZ8 : Hid (W8.heap[w7.heap.size]? = some (.cells #[.slice p7 n7 c7, .bool false, .int .i64 (-1)] 24 (0, 0)) ∧ FsL W8 (.slice p7 n7 c7) gs ∧ Below W0.heap.size W0 W8) := ⟨hg8, hl7.below hb8, j3.trans (hb68.mono j3.size)⟩
      have K2 := HK2.out W8 (j2.below hb68)
      have HK3 : Hid (Calls Try.prog 14 #[.agg #[.slice pb rfs.length cb, .bool false, .int .i64 rfu], .int .i64 keep] W8 fun e w' => Did ⟨rs, false, -1, 0⟩ W8 e w') := K2
      clear j1 j2 j3 hl7 hb7 hb8 hg8 hb68 hz8 HK1 HK2 K2 HZ6 y0 y1 y2
      go_wp2_with fail
      refine HK3.out.mono ?_
      rintro e w9 ⟨p9, n9, c9, rfl, hl9, hb9⟩
      simp only at hl9
      obtain ⟨WA, hWA⟩ : ∃ WA, w9.alloc (.cells #[.slice p9 n9 c9, .bool false, .int .i64 (-1)] 24) = WA := ⟨_, rfl⟩
      have hbA : Below w9.heap.size w9 WA := by rw [← hWA]; exact one_below _ _
      have hgA : WA.heap[w9.heap.size]? = some (.cells #[.slice p9 n9 c9, .bool false, .int .i64 (-1)] 24 (0, 0)) := by rw [← hWA]; exact heap_alloc_new w9 _
      obtain ⟨j1, j2, j3⟩ := HZ8.out
      have hb8A : Below W8.heap.size W8 WA := hb9.trans (hbA.mono hb9.size)
      have hz9 : WA.heap[w7.heap.size]? = some (.cells #[.slice p7 n7 c7, .bool false, .int .i64 (-1)] 24 (0, 0)) := by rw [hb8A.block _ (Array.getElem?_eq_some_iff.1 j1).1]; exact j1
      have f0 : WA.cell? ⟨w7.heap.size, 0, none⟩ = some (.slice p7 n7 c7) := cell_of_row (k := 0) hz9 rfl
      have f1 : WA.cell? ⟨w7.heap.size, 1, none⟩ = some (.bool false) := cell_of_row (k := 1) hz9 rfl
      have f2 : WA.cell? ⟨w7.heap.size, 2, none⟩ = some (.int .i64 (-1)) := cell_of_row (k := 2) hz9 rfl
      have HZA : Hid (WA.heap[w9.heap.size]? = some (.cells #[.slice p9 n9 c9, .bool false, .int .i64 (-1)] 24 (0, 0)) ∧ FsL WA (.slice p9 n9 c9) rs ∧ Below W0.heap.size W0 WA) := ⟨hgA, hl9.below hbA, j3.trans (hb8A.mono j3.size)⟩
      obtain ⟨s5, hs5⟩ : ∃ s5, rdS gs false nm = s5 := ⟨_, rfl⟩
      rw [hs5] at HV
      have R4 := Read_any (.slice p7 n7 c7) false (-1) nm gs WA (j2.below hb8A)
      rw [HV.out.1, hs5] at R4
      have HR4 : Hid (Calls Try.prog 12 #[.agg #[.slice p7 n7 c7, .bool false, .int .i64 (-1)], .string nm] WA fun e w' => e = .returned (.tuple #[.string s5, .int .i64 0]) ∧ Below WA.heap.size WA w') := R4
      have es5 : (s5.toList == s5.toList) = true := eq_self s5
      clear j1 j2 j3 hl9 hb9 hbA hgA hb8A hz9 HK3 R4 hs5 HZ8
      go_wp2_with fail
      refine HR4.out.mono ?_
      rintro e wB ⟨rfl, hbB⟩
      obtain ⟨j1, j2, j3⟩ := HZA.out
      have hzB : wB.heap[w9.heap.size]? = some (.cells #[.slice p9 n9 c9, .bool false, .int .i64 (-1)] 24 (0, 0)) := by rw [hbB.block _ (Array.getElem?_eq_some_iff.1 j1).1]; exact j1
      have f0 : wB.cell? ⟨w9.heap.size, 0, none⟩ = some (.slice p9 n9 c9) := cell_of_row (k := 0) hzB rfl
      have f1 : wB.cell? ⟨w9.heap.size, 1, none⟩ = some (.bool false) := cell_of_row (k := 1) hzB rfl
      have f2 : wB.cell? ⟨w9.heap.size, 2, none⟩ = some (.int .i64 (-1)) := cell_of_row (k := 2) hzB rfl
      have R5 := Read_any (.slice p9 n9 c9) false (-1) tt rs wB (j2.below hbB)
      rw [HV.out.2.1, HV.out.2.2] at R5
      have HR5 : Hid (Calls Try.prog 12 #[.agg #[.slice p9 n9 c9, .bool false, .int .i64 (-1)], .string tt] wB fun e w' => e = .returned (.tuple #[.string s5, .int .i64 0]) ∧ Below wB.heap.size wB w') := R5
      have HBB : Hid (Below w.heap.size w wB) := HB0.out.trans ((j3.trans (hbB.mono j3.size)).mono HB0.out.size)
      clear j1 j2 j3 hbB hzB HR4 R5 HZA
      go_wp2_with fail
      refine HR5.out.mono ?_
      rintro e wC ⟨rfl, hbC⟩
      have HBC : Hid (Below w.heap.size w wC) := HBB.out.trans (hbC.mono HBB.out.size)
      clear hbC HR5
      go_wp2_with fail
      go_ret
      exact ⟨rfl, HBC.out⟩
  · have hgz := HGV.out
    have hBz := hBv
    have hLz := hLv
    obtain ⟨WZ, hWZ⟩ : ∃ WZ, Vc = WZ := ⟨_, rfl⟩
    rw [hWZ] at hgz hBz hLz ⊢
    clear hWZ hLb hBb hBx HGV hBv hLv hVc s0 s1 s2 hVa hVb ca fa cbb fb cc fc
    clear hBa
    generalize wa.heap.size = gz at hgz ⊢
    obtain rfl := hLz.len
    have hBZ : Below W0.heap.size W0 WZ := HBR.out.trans (hBz.mono HBR.out.size)
    obtain ⟨y0, y1, y2⟩ := HX.out WZ hBZ
    have f0 : WZ.cell? ⟨gz, 0, none⟩ = some (.slice pb rfs.length cb) := cell_of_row (k := 0) hgz rfl
    have f1 : WZ.cell? ⟨gz, 1, none⟩ = some (.bool rdn) := cell_of_row (k := 1) hgz rfl
    have f2 : WZ.cell? ⟨gz, 2, none⟩ = some (.int .i64 rfu) := cell_of_row (k := 2) hgz rfl
    have HZ : Hid (WZ.heap[gz]? = some (.cells #[.slice pb rfs.length cb, .bool rdn, .int .i64 rfu] 24 (0, 0)) ∧ FsL WZ (.slice pb rfs.length cb) rfs ∧ Below W0.heap.size W0 WZ) := ⟨hgz, hLz, hBZ⟩
    clear hgz hLz hBz hBZ a0 a1 a2 HCD hgl
    rcases HW.out with ⟨t1, t2⟩ | ⟨t1, t2, t3, t4, t5, t6, t7, t8, t9, t10, t11, t12⟩
    · have z1 : (re != 0) = true := bne_iff_ne.2 t1
      have HBE : Hid (Below w.heap.size w WZ) := HB0.out.trans (HZ.out.2.2.mono HB0.out.size)
      rcases t2 with t2 | ⟨t2, t3⟩ | ⟨t2, t3, t4⟩
      · have z2 : (er != 0) = true := bne_iff_ne.2 t2
        clear t1 t2 HW
        go_wp2_with fail
        go_ret
        exact ⟨rfl, HBE.out⟩
      · subst t2 t3
        clear t1 HW
        go_wp2_with fail
        go_ret
        exact ⟨rfl, HBE.out⟩
      · obtain ⟨n1, n2⟩ := ne_empty t3
        subst t2 t4
        clear t1 t3 HW
        go_wp2_with fail
        go_ret
        exact ⟨rfl, HBE.out⟩
    · subst t1 t2 t3 t6
      have HT : Hid (OkF fs ∧ OkF rfs ∧ rdE rfs false tt = 0 ∧ rdS rfs false tt = sr ∧ rdE (fs.map (crF keep)) false nm = 0 ∧ rdE (rfs.map (crF keep)) false tt = 0 ∧ rdS (rfs.map (crF keep)) false tt = rdS (fs.map (crF keep)) false nm) := ⟨t4, t5, t7, t8, t10, t11, t12⟩
      have HT9 : Hid ((rdE rfs false nm = 0 ∧ nm = tt) ∨ (rdE rfs false nm = 7 ∧ nm ≠ tt)) := t9
      have R2 := Read_any (.slice pb rfs.length cb) false rfu tt rfs WZ HZ.out.2.1
      rw [t7, t8] at R2
      have HR2 : Hid (Calls Try.prog 12 #[.agg #[.slice pb rfs.length cb, .bool false, .int .i64 rfu], .string tt] WZ fun e w' => e = .returned (.tuple #[.string sr, .int .i64 0]) ∧ Below WZ.heap.size WZ w') := R2
      clear t4 t5 t7 t8 t9 t10 t11 t12 R2 HW
      go_wp2_with fail
      refine HR2.out.mono ?_
      rintro e w5 ⟨rfl, hb5⟩
      obtain ⟨j1, j2, j3⟩ := HZ.out
      have hg5 : w5.heap[gz]? = some (.cells #[.slice pb rfs.length cb, .bool false, .int .i64 rfu] 24 (0, 0)) := by rw [hb5.block _ (Array.getElem?_eq_some_iff.1 j1).1]; exact j1
      have f0 : w5.cell? ⟨gz, 0, none⟩ = some (.slice pb rfs.length cb) := cell_of_row (k := 0) hg5 rfl
      have f1 : w5.cell? ⟨gz, 1, none⟩ = some (.bool false) := cell_of_row (k := 1) hg5 rfl
      have f2 : w5.cell? ⟨gz, 2, none⟩ = some (.int .i64 rfu) := cell_of_row (k := 2) hg5 rfl
      have HZ5 : Hid (w5.heap[gz]? = some (.cells #[.slice pb rfs.length cb, .bool false, .int .i64 rfu] 24 (0, 0)) ∧ FsL w5 (.slice pb rfs.length cb) rfs ∧ Below W0.heap.size W0 w5) := ⟨hg5, j2.below hb5, j3.trans (hb5.mono j3.size)⟩
      obtain ⟨e4, he4⟩ : ∃ e4, rdE rfs false nm = e4 := ⟨_, rfl⟩
      obtain ⟨s4, hs4⟩ : ∃ s4, rdS rfs false nm = s4 := ⟨_, rfl⟩
      have R3 := Read_any (.slice pb rfs.length cb) false rfu nm rfs w5 HZ5.out.2.1
      rw [he4, hs4] at R3
      have HR3 : Hid (Calls Try.prog 12 #[.agg #[.slice pb rfs.length cb, .bool false, .int .i64 rfu], .string nm] w5 fun e w' => e = .returned (.tuple #[.string s4, .int .i64 e4]) ∧ Below w5.heap.size w5 w') := R3
      have hq : (e4 == 0) = (nm.toList == tt.toList) := by
        rcases HT9.out with ⟨u1, u2⟩ | ⟨u1, u2⟩
        · rw [← he4, u1, u2, eq_self]; rfl
        · rw [← he4, u1]
          cases e : (nm.toList == tt.toList) with
          | false => rfl
          | true => exact absurd (eqB_iff.1 e) u2
      obtain ⟨qq, hqq⟩ : ∃ qq, (nm.toList == tt.toList) = qq := ⟨_, rfl⟩
      rw [hqq] at hq
      have es : (sr.toList == sr.toList) = true := eq_self sr
      have eb : (qq != qq) = false := by simp
      clear j1 j2 j3 hb5 hg5 HR2 R3 he4 hs4 y0 y1 y2 HZ
      go_wp2_with fail
      refine HR3.out.mono ?_
      rintro e w6 ⟨rfl, hb6⟩
      obtain ⟨j1, j2, j3⟩ := HZ5.out
      have hg6 : w6.heap[gz]? = some (.cells #[.slice pb rfs.length cb, .bool false, .int .i64 rfu] 24 (0, 0)) := by rw [hb6.block _ (Array.getElem?_eq_some_iff.1 j1).1]; exact j1
      have HZ6 : Hid (w6.heap[gz]? = some (.cells #[.slice pb rfs.length cb, .bool false, .int .i64 rfu] 24 (0, 0)) ∧ FsL w6 (.slice pb rfs.length cb) rfs ∧ Below W0.heap.size W0 w6) := ⟨hg6, j2.below hb6, j3.trans (hb6.mono j3.size)⟩
      obtain ⟨y0, y1, y2⟩ := HX.out w6 HZ6.out.2.2
      obtain ⟨gs, hgs⟩ : ∃ gs, fs.map (crF keep) = gs := ⟨_, rfl⟩
      obtain ⟨rs, hrs⟩ : ∃ rs, rfs.map (crF keep) = rs := ⟨_, rfl⟩
      have K1 := CC.out w6 (HB0.out.trans (HZ6.out.2.2.mono HB0.out.size))
      rw [show CrR fs keep = ⟨gs, false, -1, 0⟩ by unfold CrR; rw [if_pos (okF_iff.2 HT.out.1), hgs]] at K1
      have HK1 : Hid (Calls Try.prog 14 #[.agg #[.slice p fs.length c, .bool false, .int .i64 fu], .int .i64 keep] w6 fun e w' => Did ⟨gs, false, -1, 0⟩ w6 e w') := K1
      have HK2 : Hid (∀ W, FsL W (.slice pb rfs.length cb) rfs → Calls Try.prog 14 #[.agg #[.slice pb rfs.length cb, .bool false, .int .i64 rfu], .int .i64 keep] W fun e w' => Did ⟨rs, false, -1, 0⟩ W e w') := fun W hl => by
        have := Crash_any (.slice pb rfs.length cb) false rfu keep rfs W hl
        rw [show CrR rfs keep = ⟨rs, false, -1, 0⟩ by unfold CrR; rw [if_pos (okF_iff.2 HT.out.2.1), hrs]] at this
        exact this
      have HV : Hid (rdE gs false nm = 0 ∧ rdE rs false tt = 0 ∧ rdS rs false tt = rdS gs false nm) := by rw [← hgs, ← hrs]; exact HT.out.2.2.2.2
      clear j1 j2 j3 hb6 hg6 HR3 HZ5 K1 hgs hrs f0 f1 f2 CC HT
      go_wp2_with fail
      refine HK1.out.mono ?_
      rintro e w7 ⟨p7, n7, c7, rfl, hl7, hb7⟩
      simp only at hl7
      obtain ⟨W8, hW8⟩ : ∃ W8, w7.alloc (.cells #[.slice p7 n7 c7, .bool false, .int .i64 (-1)] 24) = W8 := ⟨_, rfl⟩
      have hb8 : Below w7.heap.size w7 W8 := by rw [← hW8]; exact one_below _ _
      have hg8 : W8.heap[w7.heap.size]? = some (.cells #[.slice p7 n7 c7, .bool false, .int .i64 (-1)] 24 (0, 0)) := by rw [← hW8]; exact heap_alloc_new w7 _
      obtain ⟨j1, j2, j3⟩ := HZ6.out
      have hb68 : Below w6.heap.size w6 W8 := hb7.trans (hb8.mono hb7.size)
      have hz8 : W8.heap[gz]? = some (.cells #[.slice pb rfs.length cb, .bool false, .int .i64 rfu] 24 (0, 0)) := by rw [hb68.block _ (Array.getElem?_eq_some_iff.1 j1).1]; exact j1
      have f0 : W8.cell? ⟨gz, 0, none⟩ = some (.slice pb rfs.length cb) := cell_of_row (k := 0) hz8 rfl
      have f1 : W8.cell? ⟨gz, 1, none⟩ = some (.bool false) := cell_of_row (k := 1) hz8 rfl
      have f2 : W8.cell? ⟨gz, 2, none⟩ = some (.int .i64 rfu) := cell_of_row (k := 2) hz8 rfl
      have HZ8 : Hid (W8.heap[w7.heap.size]? = some (.cells #[.slice p7 n7 c7, .bool false, .int .i64 (-1)] 24 (0, 0)) ∧ FsL W8 (.slice p7 n7 c7) gs ∧ Below W0.heap.size W0 W8) := ⟨hg8, hl7.below hb8, j3.trans (hb68.mono j3.size)⟩
      have K2 := HK2.out W8 (j2.below hb68)
      have HK3 : Hid (Calls Try.prog 14 #[.agg #[.slice pb rfs.length cb, .bool false, .int .i64 rfu], .int .i64 keep] W8 fun e w' => Did ⟨rs, false, -1, 0⟩ W8 e w') := K2
      clear j1 j2 j3 hl7 hb7 hb8 hg8 hb68 hz8 HK1 HK2 K2 HZ6 y0 y1 y2
      go_wp2_with fail
      refine HK3.out.mono ?_
      rintro e w9 ⟨p9, n9, c9, rfl, hl9, hb9⟩
      simp only at hl9
      obtain ⟨WA, hWA⟩ : ∃ WA, w9.alloc (.cells #[.slice p9 n9 c9, .bool false, .int .i64 (-1)] 24) = WA := ⟨_, rfl⟩
      have hbA : Below w9.heap.size w9 WA := by rw [← hWA]; exact one_below _ _
      have hgA : WA.heap[w9.heap.size]? = some (.cells #[.slice p9 n9 c9, .bool false, .int .i64 (-1)] 24 (0, 0)) := by rw [← hWA]; exact heap_alloc_new w9 _
      obtain ⟨j1, j2, j3⟩ := HZ8.out
      have hb8A : Below W8.heap.size W8 WA := hb9.trans (hbA.mono hb9.size)
      have hz9 : WA.heap[w7.heap.size]? = some (.cells #[.slice p7 n7 c7, .bool false, .int .i64 (-1)] 24 (0, 0)) := by rw [hb8A.block _ (Array.getElem?_eq_some_iff.1 j1).1]; exact j1
      have f0 : WA.cell? ⟨w7.heap.size, 0, none⟩ = some (.slice p7 n7 c7) := cell_of_row (k := 0) hz9 rfl
      have f1 : WA.cell? ⟨w7.heap.size, 1, none⟩ = some (.bool false) := cell_of_row (k := 1) hz9 rfl
      have f2 : WA.cell? ⟨w7.heap.size, 2, none⟩ = some (.int .i64 (-1)) := cell_of_row (k := 2) hz9 rfl
      have HZA : Hid (WA.heap[w9.heap.size]? = some (.cells #[.slice p9 n9 c9, .bool false, .int .i64 (-1)] 24 (0, 0)) ∧ FsL WA (.slice p9 n9 c9) rs ∧ Below W0.heap.size W0 WA) := ⟨hgA, hl9.below hbA, j3.trans (hb8A.mono j3.size)⟩
      obtain ⟨s5, hs5⟩ : ∃ s5, rdS gs false nm = s5 := ⟨_, rfl⟩
      rw [hs5] at HV
      have R4 := Read_any (.slice p7 n7 c7) false (-1) nm gs WA (j2.below hb8A)
      rw [HV.out.1, hs5] at R4
      have HR4 : Hid (Calls Try.prog 12 #[.agg #[.slice p7 n7 c7, .bool false, .int .i64 (-1)], .string nm] WA fun e w' => e = .returned (.tuple #[.string s5, .int .i64 0]) ∧ Below WA.heap.size WA w') := R4
      have es5 : (s5.toList == s5.toList) = true := eq_self s5
      clear j1 j2 j3 hl9 hb9 hbA hgA hb8A hz9 HK3 R4 hs5 HZ8
      go_wp2_with fail
      refine HR4.out.mono ?_
      rintro e wB ⟨rfl, hbB⟩
      obtain ⟨j1, j2, j3⟩ := HZA.out
      have hzB : wB.heap[w9.heap.size]? = some (.cells #[.slice p9 n9 c9, .bool false, .int .i64 (-1)] 24 (0, 0)) := by rw [hbB.block _ (Array.getElem?_eq_some_iff.1 j1).1]; exact j1
      have f0 : wB.cell? ⟨w9.heap.size, 0, none⟩ = some (.slice p9 n9 c9) := cell_of_row (k := 0) hzB rfl
      have f1 : wB.cell? ⟨w9.heap.size, 1, none⟩ = some (.bool false) := cell_of_row (k := 1) hzB rfl
      have f2 : wB.cell? ⟨w9.heap.size, 2, none⟩ = some (.int .i64 (-1)) := cell_of_row (k := 2) hzB rfl
      have R5 := Read_any (.slice p9 n9 c9) false (-1) tt rs wB (j2.below hbB)
      rw [HV.out.2.1, HV.out.2.2] at R5
      have HR5 : Hid (Calls Try.prog 12 #[.agg #[.slice p9 n9 c9, .bool false, .int .i64 (-1)], .string tt] wB fun e w' => e = .returned (.tuple #[.string s5, .int .i64 0]) ∧ Below wB.heap.size wB w') := R5
      have HBB : Hid (Below w.heap.size w wB) := HB0.out.trans ((j3.trans (hbB.mono j3.size)).mono HB0.out.size)
      clear j1 j2 j3 hbB hzB HR4 R5 HZA
      go_wp2_with fail
      refine HR5.out.mono ?_
      rintro e wC ⟨rfl, hbC⟩
      have HBC : Hid (Below w.heap.size w wC) := HBB.out.trans (hbC.mono HBB.out.size)
      clear hbC HR5
      go_wp2_with fail
      go_ret
      exact ⟨rfl, HBC.out⟩
  · have hgz := HGV.out
    have hBz := hBv
    have hLz := hLv
    obtain ⟨WZ, hWZ⟩ : ∃ WZ, Vc = WZ := ⟨_, rfl⟩
    rw [hWZ] at hgz hBz hLz ⊢
    clear hWZ hLb hBb hBx HGV hBv hLv hVc s0 s1 s2 hVa hVb ca fa cbb fb cc fc hBa
    obtain rfl := hLz.len
    have hBZ : Below W0.heap.size W0 WZ := HBR.out.trans (hBz.mono HBR.out.size)
    obtain ⟨y0, y1, y2⟩ := HX.out WZ hBZ
    have f0 : WZ.cell? ⟨wr.heap.size, 0, none⟩ = some (.slice pb rfs.length cb) := cell_of_row (k := 0) hgz rfl
    have f1 : WZ.cell? ⟨wr.heap.size, 1, none⟩ = some (.bool rdn) := cell_of_row (k := 1) hgz rfl
    have f2 : WZ.cell? ⟨wr.heap.size, 2, none⟩ = some (.int .i64 rfu) := cell_of_row (k := 2) hgz rfl
    have HZ : Hid (WZ.heap[wr.heap.size]? = some (.cells #[.slice pb rfs.length cb, .bool rdn, .int .i64 rfu] 24 (0, 0)) ∧ FsL WZ (.slice pb rfs.length cb) rfs ∧ Below W0.heap.size W0 WZ) := ⟨hgz, hLz, hBZ⟩
    clear hgz hLz hBz hBZ a0 a1 a2 HCD hgl
    rcases HW.out with ⟨t1, t2⟩ | ⟨t1, t2, t3, t4, t5, t6, t7, t8, t9, t10, t11, t12⟩
    · have z1 : (re != 0) = true := bne_iff_ne.2 t1
      have HBE : Hid (Below w.heap.size w WZ) := HB0.out.trans (HZ.out.2.2.mono HB0.out.size)
      rcases t2 with t2 | ⟨t2, t3⟩ | ⟨t2, t3, t4⟩
      · have z2 : (er != 0) = true := bne_iff_ne.2 t2
        clear t1 t2 HW
        go_wp2_with fail
        go_ret
        exact ⟨rfl, HBE.out⟩
      · subst t2 t3
        clear t1 HW
        go_wp2_with fail
        go_ret
        exact ⟨rfl, HBE.out⟩
      · obtain ⟨n1, n2⟩ := ne_empty t3
        subst t2 t4
        clear t1 t3 HW
        go_wp2_with fail
        go_ret
        exact ⟨rfl, HBE.out⟩
    · subst t1 t2 t3 t6
      have HT : Hid (OkF fs ∧ OkF rfs ∧ rdE rfs false tt = 0 ∧ rdS rfs false tt = sr ∧ rdE (fs.map (crF keep)) false nm = 0 ∧ rdE (rfs.map (crF keep)) false tt = 0 ∧ rdS (rfs.map (crF keep)) false tt = rdS (fs.map (crF keep)) false nm) := ⟨t4, t5, t7, t8, t10, t11, t12⟩
      have HT9 : Hid ((rdE rfs false nm = 0 ∧ nm = tt) ∨ (rdE rfs false nm = 7 ∧ nm ≠ tt)) := t9
      have R2 := Read_any (.slice pb rfs.length cb) false rfu tt rfs WZ HZ.out.2.1
      rw [t7, t8] at R2
      have HR2 : Hid (Calls Try.prog 12 #[.agg #[.slice pb rfs.length cb, .bool false, .int .i64 rfu], .string tt] WZ fun e w' => e = .returned (.tuple #[.string sr, .int .i64 0]) ∧ Below WZ.heap.size WZ w') := R2
      clear t4 t5 t7 t8 t9 t10 t11 t12 R2 HW
      go_wp2_with fail
      refine HR2.out.mono ?_
      rintro e w5 ⟨rfl, hb5⟩
      obtain ⟨j1, j2, j3⟩ := HZ.out
      have hg5 : w5.heap[wr.heap.size]? = some (.cells #[.slice pb rfs.length cb, .bool false, .int .i64 rfu] 24 (0, 0)) := by rw [hb5.block _ (Array.getElem?_eq_some_iff.1 j1).1]; exact j1
      have f0 : w5.cell? ⟨wr.heap.size, 0, none⟩ = some (.slice pb rfs.length cb) := cell_of_row (k := 0) hg5 rfl
      have f1 : w5.cell? ⟨wr.heap.size, 1, none⟩ = some (.bool false) := cell_of_row (k := 1) hg5 rfl
      have f2 : w5.cell? ⟨wr.heap.size, 2, none⟩ = some (.int .i64 rfu) := cell_of_row (k := 2) hg5 rfl
      have HZ5 : Hid (w5.heap[wr.heap.size]? = some (.cells #[.slice pb rfs.length cb, .bool false, .int .i64 rfu] 24 (0, 0)) ∧ FsL w5 (.slice pb rfs.length cb) rfs ∧ Below W0.heap.size W0 w5) := ⟨hg5, j2.below hb5, j3.trans (hb5.mono j3.size)⟩
      obtain ⟨e4, he4⟩ : ∃ e4, rdE rfs false nm = e4 := ⟨_, rfl⟩
      obtain ⟨s4, hs4⟩ : ∃ s4, rdS rfs false nm = s4 := ⟨_, rfl⟩
      have R3 := Read_any (.slice pb rfs.length cb) false rfu nm rfs w5 HZ5.out.2.1
      rw [he4, hs4] at R3
      have HR3 : Hid (Calls Try.prog 12 #[.agg #[.slice pb rfs.length cb, .bool false, .int .i64 rfu], .string nm] w5 fun e w' => e = .returned (.tuple #[.string s4, .int .i64 e4]) ∧ Below w5.heap.size w5 w') := R3
      have hq : (e4 == 0) = (nm.toList == tt.toList) := by
        rcases HT9.out with ⟨u1, u2⟩ | ⟨u1, u2⟩
        · rw [← he4, u1, u2, eq_self]; rfl
        · rw [← he4, u1]
          cases e : (nm.toList == tt.toList) with
          | false => rfl
          | true => exact absurd (eqB_iff.1 e) u2
      obtain ⟨qq, hqq⟩ : ∃ qq, (nm.toList == tt.toList) = qq := ⟨_, rfl⟩
      rw [hqq] at hq
      have es : (sr.toList == sr.toList) = true := eq_self sr
      have eb : (qq != qq) = false := by simp
      clear j1 j2 j3 hb5 hg5 HR2 R3 he4 hs4 y0 y1 y2 HZ
      go_wp2_with fail
      refine HR3.out.mono ?_
      rintro e w6 ⟨rfl, hb6⟩
      obtain ⟨j1, j2, j3⟩ := HZ5.out
      have hg6 : w6.heap[wr.heap.size]? = some (.cells #[.slice pb rfs.length cb, .bool false, .int .i64 rfu] 24 (0, 0)) := by rw [hb6.block _ (Array.getElem?_eq_some_iff.1 j1).1]; exact j1
      have HZ6 : Hid (w6.heap[wr.heap.size]? = some (.cells #[.slice pb rfs.length cb, .bool false, .int .i64 rfu] 24 (0, 0)) ∧ FsL w6 (.slice pb rfs.length cb) rfs ∧ Below W0.heap.size W0 w6) := ⟨hg6, j2.below hb6, j3.trans (hb6.mono j3.size)⟩
      obtain ⟨y0, y1, y2⟩ := HX.out w6 HZ6.out.2.2
      obtain ⟨gs, hgs⟩ : ∃ gs, fs.map (crF keep) = gs := ⟨_, rfl⟩
      obtain ⟨rs, hrs⟩ : ∃ rs, rfs.map (crF keep) = rs := ⟨_, rfl⟩
      have K1 := CC.out w6 (HB0.out.trans (HZ6.out.2.2.mono HB0.out.size))
      rw [show CrR fs keep = ⟨gs, false, -1, 0⟩ by unfold CrR; rw [if_pos (okF_iff.2 HT.out.1), hgs]] at K1
      have HK1 : Hid (Calls Try.prog 14 #[.agg #[.slice p fs.length c, .bool false, .int .i64 fu], .int .i64 keep] w6 fun e w' => Did ⟨gs, false, -1, 0⟩ w6 e w') := K1
      have HK2 : Hid (∀ W, FsL W (.slice pb rfs.length cb) rfs → Calls Try.prog 14 #[.agg #[.slice pb rfs.length cb, .bool false, .int .i64 rfu], .int .i64 keep] W fun e w' => Did ⟨rs, false, -1, 0⟩ W e w') := fun W hl => by
        have := Crash_any (.slice pb rfs.length cb) false rfu keep rfs W hl
        rw [show CrR rfs keep = ⟨rs, false, -1, 0⟩ by unfold CrR; rw [if_pos (okF_iff.2 HT.out.2.1), hrs]] at this
        exact this
      have HV : Hid (rdE gs false nm = 0 ∧ rdE rs false tt = 0 ∧ rdS rs false tt = rdS gs false nm) := by rw [← hgs, ← hrs]; exact HT.out.2.2.2.2
      clear j1 j2 j3 hb6 hg6 HR3 HZ5 K1 hgs hrs f0 f1 f2 CC HT
      go_wp2_with fail
      refine HK1.out.mono ?_
      rintro e w7 ⟨p7, n7, c7, rfl, hl7, hb7⟩
      simp only at hl7
      obtain ⟨W8, hW8⟩ : ∃ W8, w7.alloc (.cells #[.slice p7 n7 c7, .bool false, .int .i64 (-1)] 24) = W8 := ⟨_, rfl⟩
      have hb8 : Below w7.heap.size w7 W8 := by rw [← hW8]; exact one_below _ _
      have hg8 : W8.heap[w7.heap.size]? = some (.cells #[.slice p7 n7 c7, .bool false, .int .i64 (-1)] 24 (0, 0)) := by rw [← hW8]; exact heap_alloc_new w7 _
      obtain ⟨j1, j2, j3⟩ := HZ6.out
      have hb68 : Below w6.heap.size w6 W8 := hb7.trans (hb8.mono hb7.size)
      have hz8 : W8.heap[wr.heap.size]? = some (.cells #[.slice pb rfs.length cb, .bool false, .int .i64 rfu] 24 (0, 0)) := by rw [hb68.block _ (Array.getElem?_eq_some_iff.1 j1).1]; exact j1
      have f0 : W8.cell? ⟨wr.heap.size, 0, none⟩ = some (.slice pb rfs.length cb) := cell_of_row (k := 0) hz8 rfl
      have f1 : W8.cell? ⟨wr.heap.size, 1, none⟩ = some (.bool false) := cell_of_row (k := 1) hz8 rfl
      have f2 : W8.cell? ⟨wr.heap.size, 2, none⟩ = some (.int .i64 rfu) := cell_of_row (k := 2) hz8 rfl
      have HZ8 : Hid (W8.heap[w7.heap.size]? = some (.cells #[.slice p7 n7 c7, .bool false, .int .i64 (-1)] 24 (0, 0)) ∧ FsL W8 (.slice p7 n7 c7) gs ∧ Below W0.heap.size W0 W8) := ⟨hg8, hl7.below hb8, j3.trans (hb68.mono j3.size)⟩
      have K2 := HK2.out W8 (j2.below hb68)
      have HK3 : Hid (Calls Try.prog 14 #[.agg #[.slice pb rfs.length cb, .bool false, .int .i64 rfu], .int .i64 keep] W8 fun e w' => Did ⟨rs, false, -1, 0⟩ W8 e w') := K2
      clear j1 j2 j3 hl7 hb7 hb8 hg8 hb68 hz8 HK1 HK2 K2 HZ6 y0 y1 y2
      go_wp2_with fail
      refine HK3.out.mono ?_
      rintro e w9 ⟨p9, n9, c9, rfl, hl9, hb9⟩
      simp only at hl9
      obtain ⟨WA, hWA⟩ : ∃ WA, w9.alloc (.cells #[.slice p9 n9 c9, .bool false, .int .i64 (-1)] 24) = WA := ⟨_, rfl⟩
      have hbA : Below w9.heap.size w9 WA := by rw [← hWA]; exact one_below _ _
      have hgA : WA.heap[w9.heap.size]? = some (.cells #[.slice p9 n9 c9, .bool false, .int .i64 (-1)] 24 (0, 0)) := by rw [← hWA]; exact heap_alloc_new w9 _
      obtain ⟨j1, j2, j3⟩ := HZ8.out
      have hb8A : Below W8.heap.size W8 WA := hb9.trans (hbA.mono hb9.size)
      have hz9 : WA.heap[w7.heap.size]? = some (.cells #[.slice p7 n7 c7, .bool false, .int .i64 (-1)] 24 (0, 0)) := by rw [hb8A.block _ (Array.getElem?_eq_some_iff.1 j1).1]; exact j1
      have f0 : WA.cell? ⟨w7.heap.size, 0, none⟩ = some (.slice p7 n7 c7) := cell_of_row (k := 0) hz9 rfl
      have f1 : WA.cell? ⟨w7.heap.size, 1, none⟩ = some (.bool false) := cell_of_row (k := 1) hz9 rfl
      have f2 : WA.cell? ⟨w7.heap.size, 2, none⟩ = some (.int .i64 (-1)) := cell_of_row (k := 2) hz9 rfl
      have HZA : Hid (WA.heap[w9.heap.size]? = some (.cells #[.slice p9 n9 c9, .bool false, .int .i64 (-1)] 24 (0, 0)) ∧ FsL WA (.slice p9 n9 c9) rs ∧ Below W0.heap.size W0 WA) := ⟨hgA, hl9.below hbA, j3.trans (hb8A.mono j3.size)⟩
      obtain ⟨s5, hs5⟩ : ∃ s5, rdS gs false nm = s5 := ⟨_, rfl⟩
      rw [hs5] at HV
      have R4 := Read_any (.slice p7 n7 c7) false (-1) nm gs WA (j2.below hb8A)
      rw [HV.out.1, hs5] at R4
      have HR4 : Hid (Calls Try.prog 12 #[.agg #[.slice p7 n7 c7, .bool false, .int .i64 (-1)], .string nm] WA fun e w' => e = .returned (.tuple #[.string s5, .int .i64 0]) ∧ Below WA.heap.size WA w') := R4
      have es5 : (s5.toList == s5.toList) = true := eq_self s5
      clear j1 j2 j3 hl9 hb9 hbA hgA hb8A hz9 HK3 R4 hs5 HZ8
      go_wp2_with fail
      refine HR4.out.mono ?_
      rintro e wB ⟨rfl, hbB⟩
      obtain ⟨j1, j2, j3⟩ := HZA.out
      have hzB : wB.heap[w9.heap.size]? = some (.cells #[.slice p9 n9 c9, .bool false, .int .i64 (-1)] 24 (0, 0)) := by rw [hbB.block _ (Array.getElem?_eq_some_iff.1 j1).1]; exact j1
      have f0 : wB.cell? ⟨w9.heap.size, 0, none⟩ = some (.slice p9 n9 c9) := cell_of_row (k := 0) hzB rfl
      have f1 : wB.cell? ⟨w9.heap.size, 1, none⟩ = some (.bool false) := cell_of_row (k := 1) hzB rfl
      have f2 : wB.cell? ⟨w9.heap.size, 2, none⟩ = some (.int .i64 (-1)) := cell_of_row (k := 2) hzB rfl
      have R5 := Read_any (.slice p9 n9 c9) false (-1) tt rs wB (j2.below hbB)
      rw [HV.out.2.1, HV.out.2.2] at R5
      have HR5 : Hid (Calls Try.prog 12 #[.agg #[.slice p9 n9 c9, .bool false, .int .i64 (-1)], .string tt] wB fun e w' => e = .returned (.tuple #[.string s5, .int .i64 0]) ∧ Below wB.heap.size wB w') := R5
      have HBB : Hid (Below w.heap.size w wB) := HB0.out.trans ((j3.trans (hbB.mono j3.size)).mono HB0.out.size)
      clear j1 j2 j3 hbB hzB HR4 R5 HZA
      go_wp2_with fail
      refine HR5.out.mono ?_
      rintro e wC ⟨rfl, hbC⟩
      have HBC : Hid (Below w.heap.size w wC) := HBB.out.trans (hbC.mono HBB.out.size)
      clear hbC HR5
      go_wp2_with fail
      go_ret
      exact ⟨rfl, HBC.out⟩
end Go.Proofs.Ytedjfbkpebmggaa
