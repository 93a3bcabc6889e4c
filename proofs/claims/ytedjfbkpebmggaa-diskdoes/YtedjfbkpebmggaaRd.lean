/- The reference: what with answers, walked. -/
import Derived.Test.YtedjfbkpebmggaaRc
namespace Go.Proofs.Ytedjfbkpebmggaa
open Go.Shelf Go.RowKit Go.Lib Go.Sort
set_option linter.unusedVariables false
set_option linter.unusedSimpArgs false
attribute [local go_sem ↓] Go.wp_at_zero Go.wp_at_succ
theorem wibox (w : World) (v : Value) (dn : Bool) (fu : Int) (n d : ByteArray) (y : Int) : ∃ W0, ((w.alloc (.cells #[v, .bool dn, .int .i64 fu] 24)).alloc (.cells #[.string n, .string d, .int .i64 y] 41)).alloc (.cells #[.slice none 0 0, .bool false, .int .i64 0] 24) = W0 ∧ Below w.heap.size w W0 ∧ W0.heap.size = w.heap.size + 3 ∧
    W0.heap[w.heap.size]? = some (.cells #[v, .bool dn, .int .i64 fu] 24 (0, 0)) ∧ W0.heap[w.heap.size + 1]? = some (.cells #[.string n, .string d, .int .i64 y] 41 (0, 0)) ∧ W0.heap[w.heap.size + 1 + 1]? = some (.cells #[.slice none 0 0, .bool false, .int .i64 0] 24 (0, 0)) := by
  refine ⟨_, rfl, three_below _ _ _ _, by simp, ?_, ?_, ?_⟩
  · rw [heap_alloc_old _ _ (by simp; omega), heap_alloc_old _ _ (by simp)]; exact heap_alloc_new w _
  · rw [heap_alloc_old _ _ (by simp)]
    have := heap_alloc_new (w.alloc (.cells #[v, .bool dn, .int .i64 fu] 24)) (.cells #[.string n, .string d, .int .i64 y] 41)
    simpa using this
  · have := heap_alloc_new ((w.alloc (.cells #[v, .bool dn, .int .i64 fu] 24)).alloc (.cells #[.string n, .string d, .int .i64 y] 41)) (.cells #[.slice none 0 0, .bool false, .int .i64 0] 24)
    simpa using this
theorem Gath_ne {W0 wx : World} {u : Value} {ls : List DF} (h : GathF W0 u ls wx) {m : Nat} (hm : wx.heap.size ≤ m) : u.ownBlock ≠ some m := fun e => by
  have h1 := h.1
  unfold OwnF at h1
  have := (h1.lt _ e).2
  omega
set_option maxRecDepth 100000 in
set_option maxHeartbeats 4000000 in
theorem refWith_any (v : Value) (dn : Bool) (fu : Int) (xn xd : ByteArray) (xy : Int) (fs : List DF) (w : World) (h : FsL w v fs) (hu : Up fs) (hm : (fs.length + 1) * 40 ≤ 140737488355328) :
    Calls Try.prog 25 #[.agg #[v, .bool dn, .int .i64 fu], .agg #[.string xn, .string xd, .int .i64 xy]] w fun e w' => Was (wi ⟨xn, xd, xy⟩ fs) dn fu w e w' := by
  obtain ⟨W0, hW0, hb0, hs0, g0, g1, g2⟩ := wibox w v dn fu xn xd xy
  have HWI : Hid (rins ⟨xn, xd, xy⟩ (wo xn fs) = wi ⟨xn, xd, xy⟩ fs) := rins_eq (hu.wo xn) (fun f hf => (wo_mem.1 hf).2)
  have C1 : Hid (Calls Try.prog 27 #[.agg #[v, .bool dn, .int .i64 fu], .string xn] W0 fun e w' => Was (wo xn fs) dn fu W0 e w') := refWithout_any v dn fu xn fs W0 (h.below hb0)
  have hwl := wo_length xn fs
  have HSM : Hid (SmallF (wo xn fs)) := wo_small h.small
  obtain ⟨p, c, rfl, _⟩ := h
  have x0 : W0.cell? ⟨w.heap.size, 0, none⟩ = some (.slice p fs.length c) := cell_of_row (k := 0) g0 rfl
  have x1 : W0.cell? ⟨w.heap.size, 1, none⟩ = some (.bool dn) := cell_of_row (k := 1) g0 rfl
  have x2 : W0.cell? ⟨w.heap.size, 2, none⟩ = some (.int .i64 fu) := cell_of_row (k := 2) g0 rfl
  have x3 : W0.cell? ⟨w.heap.size + 1, 0, none⟩ = some (.string xn) := cell_of_row (k := 0) g1 rfl
  have HB0 : Hid (Below w.heap.size w W0) := hb0
  have HG : Hid (W0.heap[w.heap.size]? = some (.cells #[.slice p fs.length c, .bool dn, .int .i64 fu] 24 (0, 0)) ∧ W0.heap[w.heap.size + 1]? = some (.cells #[.string xn, .string xd, .int .i64 xy] 41 (0, 0)) ∧ W0.heap[w.heap.size + 1 + 1]? = some (.cells #[.slice none 0 0, .bool false, .int .i64 0] 24 (0, 0)) ∧ W0.heap.size = w.heap.size + 3) := ⟨g0, g1, g2, hs0⟩
  obtain ⟨l, hl⟩ : ∃ l, wo xn fs = l := ⟨_, rfl⟩
  rw [hl] at C1 HWI HSM hwl
  have hlm : (l.length + 1) * 40 ≤ 140737488355328 := by omega
  clear g0 g1 g2 hb0 hs0 hu hl
  go_enter Try.func25, Try.ntmps25
  go_wp2_with fail
  refine C1.out.mono ?_
  rintro e w1 ⟨pl, cl, rfl, hol, hb1⟩
  obtain ⟨g0, g1, g2, hs0⟩ := HG.out
  have k0 : w1.heap[w.heap.size]? = some (.cells #[.slice p fs.length c, .bool dn, .int .i64 fu] 24 (0, 0)) := by rw [hb1.block _ (by omega)]; exact g0
  have k1 : w1.heap[w.heap.size + 1]? = some (.cells #[.string xn, .string xd, .int .i64 xy] 41 (0, 0)) := by rw [hb1.block _ (by omega)]; exact g1
  have k2 : w1.heap[w.heap.size + 1 + 1]? = some (.cells #[.slice none 0 0, .bool false, .int .i64 0] 24 (0, 0)) := by rw [hb1.block _ (by omega)]; exact g2
  have hll : FsL w1 (.slice pl l.length cl) l := hol.files (by omega) HSM.out
  obtain ⟨Va, Vb, Vc, hVa, hVb, hVc, ⟨pa, ka⟩, ga, ⟨pb, kb⟩, gb, ⟨pc, kc⟩, gc, hbv, hgv, r0, r1, r2⟩ := set_disk k0 (.slice pl l.length cl) (.bool dn) (.int .i64 fu)
  obtain ⟨o5, o6⟩ := set3_other hVa hVb hVc
  have HV : Hid (Vc.heap[w.heap.size]? = some (.cells #[.slice pl l.length cl, .bool dn, .int .i64 fu] 24 (0, 0)) ∧ Vc.heap[w.heap.size + 1]? = some (.cells #[.string xn, .string xd, .int .i64 xy] 41 (0, 0)) ∧ Vc.heap[w.heap.size + 1 + 1]? = some (.cells #[.slice none 0 0, .bool false, .int .i64 0] 24 (0, 0)) ∧ Below w.heap.size w Vc ∧ w.heap.size + 3 ≤ Vc.heap.size) :=
    ⟨hgv, by rw [o5 _ (by omega)]; exact k1, by rw [o5 _ (by omega)]; exact k2, hbv _ _ (HB0.out.trans (hb1.mono HB0.out.size)) (Nat.le_refl _), by have := hb1.size; omega⟩
  obtain ⟨_, _, hq1, _, _, hq2⟩ := hll.but k0 o5 o6
  simp only [Value.slice.injEq, true_and] at hq1
  obtain ⟨rfl, rfl⟩ := hq1
  have HP : Hid (0 < l.length → ∃ b o, pl = some ⟨b, o, none⟩ ∧ b < Vc.heap.size ∧ FsIs Vc b o l) := hq2
  have HJ0 : Hid (GathF Vc (.slice none 0 0) [] Vc ∧ Put ⟨xn, xd, xy⟩ l [] false 0) := ⟨⟨World.ownsRow_nil _ _ _ _, Below.refl _ _⟩, ⟨by rw [if_neg (by simp)]; exact ⟨rfl, rfl⟩, by simp⟩⟩
  clear g0 g1 g2 hs0 k0 k1 k2 hll hbv hgv o5 o6 hq2 hol hb1 C1 HG x0 x1 x2 x3 hwl
  go_wp2_with fail
  go_loopg [5, 6, 16] l.length (fun gf s5 s6 s16 wx => ∃ (u : Value) (pt : Bool) (i : Nat) (ls : List DF), u = s5 ∧ s6 = .bool pt ∧ s16 = .int .i64 i ∧ i ≤ l.length ∧ l.length ≤ i + gf ∧ Hid (GathF Vc u ls wx ∧ Put ⟨xn, xd, xy⟩ l ls pt i))
  case atStart => exact ⟨_, false, 0, [], rfl, rfl, rfl, by omega, by omega, HJ0⟩
  case round =>
    clear HJ0
    obtain ⟨u, pt, i, ls, rfl, rfl, rfl, hi1, hgf, HJ⟩ := hrel
    by_cases hi : i < l.length
    · obtain ⟨g', rfl⟩ : ∃ g', gk = g' + 1 := ⟨gk - 1, by omega⟩
      obtain ⟨b, o, rfl, hlt, hc⟩ := HP.out (by omega)
      obtain ⟨hG, hPt⟩ := HJ.out
      obtain ⟨c0, c1, c2⟩ := (hc.below hlt hG.2) i hi
      have hlen := hPt.2
      obtain ⟨⟨n, d, y⟩, hf⟩ : ∃ f, l[i] = f := ⟨_, rfl⟩
      rw [hf] at c0 c1 c2
      simp only at c0 c1 c2
      have z0 : (0 : Int) ≤ (i : Int) := by omega
      have z1 : (i : Int) < (l.length : Int) := by omega
      obtain ⟨W1, hW1⟩ : ∃ W1, wr.alloc (.cells #[.string n, .string d, .int .i64 y] 41) = W1 := ⟨_, rfl⟩
      have hG1 : GathF Vc u ls W1 := by rw [← hW1]; exact hG.alloc _
      have hgx : W1.heap[wr.heap.size]? = some (.cells #[.string n, .string d, .int .i64 y] 41 (0, 0)) := by rw [← hW1]; exact heap_alloc_new wr _
      have hx1 : W1.heap[w.heap.size + 1]? = some (.cells #[.string xn, .string xd, .int .i64 xy] 41 (0, 0)) := by rw [hG1.2.block _ (by have := HV.out.2.2.2.2; omega)]; exact HV.out.2.1
      have f0 : W1.cell? ⟨wr.heap.size, 0, none⟩ = some (.string n) := cell_of_row (k := 0) hgx rfl
      have f1 : W1.cell? ⟨wr.heap.size, 1, none⟩ = some (.string d) := cell_of_row (k := 1) hgx rfl
      have f2 : W1.cell? ⟨wr.heap.size, 2, none⟩ = some (.int .i64 y) := cell_of_row (k := 2) hgx rfl
      have q0 : W1.cell? ⟨w.heap.size + 1, 0, none⟩ = some (.string xn) := cell_of_row (k := 0) hx1 rfl
      have q1 : W1.cell? ⟨w.heap.size + 1, 1, none⟩ = some (.string xd) := cell_of_row (k := 1) hx1 rfl
      have q2 : W1.cell? ⟨w.heap.size + 1, 2, none⟩ = some (.int .i64 xy) := cell_of_row (k := 2) hx1 rfl
      cases pt with
      | true =>
        obtain ⟨u', W', hrun, hG', _, _⟩ := gath_more Vc W1 u ls n d y hG1 (by omega)
        have HJ2 : Hid (GathF Vc u' (ls ++ [⟨n, d, y⟩]) W' ∧ Put ⟨xn, xd, xy⟩ l (ls ++ [⟨n, d, y⟩]) true (i + 1)) := ⟨hG', hPt.keep hi hf⟩
        have HR : Hid _ := hrun
        clear hG hPt hG1 hgx hx1 hrun hG' hf hc HJ
        go_wp2_with (at_builtin; refine Lib.wpList_append_run _ rfl _ _ _ _ rfl _ _ rfl rfl _ _ (HR.out _) ?_)
        go_roundg g'
        case measure => omega
        case rel => exact ⟨_, true, i + 1, _, rfl, rfl, by go_num, by omega, by omega, HJ2⟩
      | false =>
        cases ha : (Op.bytesLess n.toList xn.toList || n.toList == xn.toList)
        · have hgt : ltB xn n = true := leB_false.1 ha
          obtain ⟨u', W', hrun, hG', _, hkp⟩ := gath_more Vc W1 u ls xn xd xy hG1 (by omega)
          have hgx' : W'.heap[wr.heap.size]? = some (.cells #[.string n, .string d, .int .i64 y] 41 (0, 0)) := by
            rw [hkp _ (Array.getElem?_eq_some_iff.1 hgx).1 (Gath_ne hG (Nat.le_refl _))]; exact hgx
          have m0 : W'.cell? ⟨wr.heap.size, 0, none⟩ = some (.string n) := cell_of_row (k := 0) hgx' rfl
          have m1 : W'.cell? ⟨wr.heap.size, 1, none⟩ = some (.string d) := cell_of_row (k := 1) hgx' rfl
          have m2 : W'.cell? ⟨wr.heap.size, 2, none⟩ = some (.int .i64 y) := cell_of_row (k := 2) hgx' rfl
          have hll : (ls ++ [(⟨xn, xd, xy⟩ : DF)]).length = ls.length + 1 := by simp
          have hlsi : ls.length ≤ i := by
            have := hPt.1
            rw [if_neg (by simp)] at this
            rw [this.1, List.length_take]; omega
          have hPn := hPt.now hi hf hgt
          obtain ⟨ls2, hls2⟩ : ∃ ls2, ls ++ [(⟨xn, xd, xy⟩ : DF)] = ls2 := ⟨_, rfl⟩
          rw [hls2] at hG' hll hPn
          clear hls2
          have hb3 : (ls2.length + 1) * 40 ≤ 140737488355328 := by omega
          obtain ⟨u2, W2, hrun2, hG2, _, _⟩ := gath_more Vc W' u' ls2 n d y hG' hb3
          have HJ2 : Hid (GathF Vc u2 (ls2 ++ [⟨n, d, y⟩]) W2 ∧ Put ⟨xn, xd, xy⟩ l (ls2 ++ [⟨n, d, y⟩]) true (i + 1)) := ⟨hG2, hPn⟩
          have HR : Hid _ := hrun
          have HR2 : Hid _ := hrun2
          clear hG hPt hG1 hgx hx1 hrun hG' hf hc HJ hgx' hkp hrun2 hG2 hgt hll hPn hb3
          go_wp2_with (first
            | (at_builtin; refine Lib.wpList_append_run _ rfl _ _ _ _ rfl _ _ rfl rfl _ _ (HR.out _) ?_; clear HR)
            | (at_builtin; refine Lib.wpList_append_run _ rfl _ _ _ _ rfl _ _ rfl rfl _ _ (HR2.out _) ?_))
          go_roundg g'
          case measure => omega
          case rel => exact ⟨_, true, i + 1, _, rfl, rfl, by go_num, by omega, by omega, HJ2⟩
        · have hgt : ltB xn n = false := by
            cases e : ltB xn n with
            | false => rfl
            | true => have := leB_false.2 e; unfold ltB eqB at this; rw [ha] at this; cases this
          obtain ⟨u', W', hrun, hG', _, _⟩ := gath_more Vc W1 u ls n d y hG1 (by omega)
          have HJ2 : Hid (GathF Vc u' (ls ++ [⟨n, d, y⟩]) W' ∧ Put ⟨xn, xd, xy⟩ l (ls ++ [⟨n, d, y⟩]) false (i + 1)) := ⟨hG', hPt.pass hi hf hgt⟩
          have HR : Hid _ := hrun
          clear hG hPt hG1 hgx hx1 hrun hG' hf hc HJ hgt
          go_wp2_with (at_builtin; refine Lib.wpList_append_run _ rfl _ _ _ _ rfl _ _ rfl rfl _ _ (HR.out _) ?_)
          go_roundg g'
          case measure => omega
          case rel => exact ⟨_, false, i + 1, _, rfl, rfl, by go_num, by omega, by omega, HJ2⟩
    · have z1 : ¬ (i : Int) < (l.length : Int) := by omega
      obtain ⟨hG, hPt⟩ := HJ.out
      have hV := HV.out
      have hx1 : wr.heap[w.heap.size + 1]? = some (.cells #[.string xn, .string xd, .int .i64 xy] 41 (0, 0)) := by rw [hG.2.block _ (by have := HV.out.2.2.2.2; omega)]; exact HV.out.2.1
      have q0 : wr.cell? ⟨w.heap.size + 1, 0, none⟩ = some (.string xn) := cell_of_row (k := 0) hx1 rfl
      have q1 : wr.cell? ⟨w.heap.size + 1, 1, none⟩ = some (.string xd) := cell_of_row (k := 1) hx1 rfl
      have q2 : wr.cell? ⟨w.heap.size + 1, 2, none⟩ = some (.int .i64 xy) := cell_of_row (k := 2) hx1 rfl
      have HEND : Hid (∀ u W, GathF Vc u (rins ⟨xn, xd, xy⟩ l) W → ∃ p' c' W4 Va Vb Vc', u = .slice p' (wi ⟨xn, xd, xy⟩ fs).length c' ∧ W.setCell ⟨w.heap.size, 0, none⟩ u = W4 ∧ (∃ o, W.cell? ⟨w.heap.size, 0, none⟩ = some o) ∧ W.frozen? ⟨w.heap.size, 0, none⟩ = false ∧ (W4.cell? ⟨w.heap.size, 0, none⟩ = some u ∧ W4.cell? ⟨w.heap.size, 1, none⟩ = some (.bool dn) ∧ W4.cell? ⟨w.heap.size, 2, none⟩ = some (.int .i64 fu)) ∧
          W4.setCell ⟨w.heap.size + 1 + 1, 0, none⟩ u = Va ∧ Va.setCell ⟨w.heap.size + 1 + 1, 1, none⟩ (.bool dn) = Vb ∧ Vb.setCell ⟨w.heap.size + 1 + 1, 2, none⟩ (.int .i64 fu) = Vc' ∧ ((∃ o, W4.cell? ⟨w.heap.size + 1 + 1, 0, none⟩ = some o) ∧ W4.frozen? ⟨w.heap.size + 1 + 1, 0, none⟩ = false ∧ (∃ o, Va.cell? ⟨w.heap.size + 1 + 1, 1, none⟩ = some o) ∧ Va.frozen? ⟨w.heap.size + 1 + 1, 1, none⟩ = false ∧ (∃ o, Vb.cell? ⟨w.heap.size + 1 + 1, 2, none⟩ = some o) ∧ Vb.frozen? ⟨w.heap.size + 1 + 1, 2, none⟩ = false) ∧
          (Vc'.cell? ⟨w.heap.size + 1 + 1, 0, none⟩ = some u ∧ Vc'.cell? ⟨w.heap.size + 1 + 1, 1, none⟩ = some (.bool dn) ∧ Vc'.cell? ⟨w.heap.size + 1 + 1, 2, none⟩ = some (.int .i64 fu)) ∧ Was (wi ⟨xn, xd, xy⟩ fs) dn fu w (.returned (.agg #[u, .bool dn, .int .i64 fu])) Vc') := by
        intro u W hg
        obtain ⟨v0, v1, v2, v3, v4⟩ := HV.out
        have ho : OwnF Vc.heap.size W u (wi ⟨xn, xd, xy⟩ fs) := by rw [← HWI.out]; exact hg.1
        obtain ⟨p', c', rfl⟩ := ho.form
        have hg0 : W.heap[w.heap.size]? = some (.cells #[.slice pl l.length cl, .bool dn, .int .i64 fu] 24 (0, 0)) := by rw [hg.2.block _ (by omega)]; exact v0
        have hg2 : W.heap[w.heap.size + 1 + 1]? = some (.cells #[.slice none 0 0, .bool false, .int .i64 0] 24 (0, 0)) := by rw [hg.2.block _ (by omega)]; exact v2
        obtain ⟨s1, s2, hg4, hbl4⟩ := setT_row hg0 (k := 0) (by simp) (.slice p' (wi ⟨xn, xd, xy⟩ fs).length c')
        obtain ⟨W4, hW4⟩ : ∃ W4, W.setCell ⟨w.heap.size, 0, none⟩ (.slice p' (wi ⟨xn, xd, xy⟩ fs).length c') = W4 := ⟨_, rfl⟩
        rw [hW4] at hg4 hbl4
        obtain ⟨o3, o4⟩ := set1_other hW4
        have hg14 : W4.heap[w.heap.size + 1 + 1]? = some (.cells #[.slice none 0 0, .bool false, .int .i64 0] 24 (0, 0)) := by rw [o3 _ (by omega)]; exact hg2
        obtain ⟨Va, Vb, Vd, hVa, hVb, hVd, ka, ga, kb, gb, kc, gc, hbv, _, r0, r1, r2⟩ := set_disk hg14 (.slice p' (wi ⟨xn, xd, xy⟩ fs).length c') (.bool dn) (.int .i64 fu)
        obtain ⟨o5, o6⟩ := set3_other hVa hVb hVd
        refine ⟨p', c', W4, Va, Vb, Vd, rfl, hW4, s1, s2, ⟨cell_of_row (k := 0) hg4 rfl, cell_of_row (k := 1) hg4 rfl, cell_of_row (k := 2) hg4 rfl⟩, hVa, hVb, hVd, ⟨ka, ga, kb, gb, kc, gc⟩, ⟨r0, r1, r2⟩, p', c', rfl, ((ho.but hg0 o3).but hg14 o5).mono (by omega), hbv _ _ (hbl4 _ _ (v3.trans (hg.2.mono v3.size)) (Nat.le_refl _)) (by omega)⟩
      cases pt with
      | true =>
        have hls := hPt.end_put (by omega)
        rw [hls] at hG
        obtain ⟨p', c', W4, Ua, Ub, Uc, rfl, hW4, ⟨oq, cq⟩, fq, ⟨e0, e1, e2⟩, hUa, hUb, hUc, ⟨⟨pa, ka⟩, ga, ⟨pb, kb⟩, gb, ⟨pc, kc⟩, gc⟩, ⟨r0, r1, r2⟩, hW⟩ := HEND.out u wr hG
        have HF : Hid (Was (wi ⟨xn, xd, xy⟩ fs) dn fu w (.returned (.agg #[.slice p' (wi ⟨xn, xd, xy⟩ fs).length c', .bool dn, .int .i64 fu])) Uc) := hW
        clear hls hG hPt hV hx1 HEND hW HJ HP HV q0 q1 q2
        go_wp2_with fail
        exact bodyPost_ret (v := .agg #[.slice p' (wi ⟨xn, xd, xy⟩ fs).length c', .bool dn, .int .i64 fu]) (by simp [results, Try.results25, go_sem, r0, r1, r2]) rfl HF.out
      | false =>
        have hls := hPt.end_not (by omega)
        have hlsi : ls.length ≤ l.length := by
          have := hPt.1
          rw [if_neg (by simp)] at this
          rw [this.1, List.length_take]; omega
        obtain ⟨u', W', hrun, hG', _, _⟩ := gath_more Vc wr u ls xn xd xy hG (by omega)
        rw [hls] at hG'
        obtain ⟨p', c', W4, Ua, Ub, Uc, rfl, hW4, ⟨oq, cq⟩, fq, ⟨e0, e1, e2⟩, hUa, hUb, hUc, ⟨⟨pa, ka⟩, ga, ⟨pb, kb⟩, gb, ⟨pc, kc⟩, gc⟩, ⟨r0, r1, r2⟩, hW⟩ := HEND.out u' W' hG'
        have HF : Hid (Was (wi ⟨xn, xd, xy⟩ fs) dn fu w (.returned (.agg #[.slice p' (wi ⟨xn, xd, xy⟩ fs).length c', .bool dn, .int .i64 fu])) Uc) := hW
        have HR : Hid _ := hrun
        clear hls hG hPt hV hx1 HEND hW HJ HP HV hrun hG' hlsi
        go_wp2_with (at_builtin; refine Lib.wpList_append_run _ rfl _ _ _ _ rfl _ _ rfl rfl _ _ (HR.out _) ?_)
        exact bodyPost_ret (v := .agg #[.slice p' (wi ⟨xn, xd, xy⟩ fs).length c', .bool dn, .int .i64 fu]) (by simp [results, Try.results25, go_sem, r0, r1, r2]) rfl HF.out
end Go.Proofs.Ytedjfbkpebmggaa
