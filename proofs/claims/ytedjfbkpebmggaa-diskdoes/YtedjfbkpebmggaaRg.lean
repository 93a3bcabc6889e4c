/- The reference: what Crash answers. -/
import Derived.Test.YtedjfbkpebmggaaRf
import Derived.Deep.RegionLaw
namespace Go.Proofs.Ytedjfbkpebmggaa
open Go.Shelf Go.RowKit Go.Lib Go.Sort
set_option linter.unusedVariables false
set_option linter.unusedSimpArgs false
attribute [local go_sem ↓] Go.wp_at_zero Go.wp_at_succ
theorem step_append22 {ops : Array Oper} {o : Oper} {a : Act} {K : Act → World → Prop} {Q : Exit → Act → World → Prop} {E : Prop} (W : World) (hgd : o.guard = none) (s x : Operand)
    (ho : o.op = .call { callee := .builtin .append, args := #[s, x], argTypes := #[22, 22] }) (vs vx v' : Value) (W' : World) (hs : a.eval s = vs) (hx : a.eval x = vx)
    (hrun : (Builtin.append_ #[22, 22] o.type #[vs, vx]).run Try.prog W = .ok v' W') (h : K (a.put o.dst v') W') :
    if Region.wanted o (yielded ops a.tmps) = true then Oper.wp Try.prog o a W K Q else E := by
  have hw : Region.wanted o (yielded ops a.tmps) = true := by simp [Region.wanted, hgd]
  rw [if_pos hw]
  unfold Oper.wp execOp
  simp only [ho, resolve, invoke, builtin, Sem.run_bind, Sem.run_pure, Result.andThen_ok, List.map_toArray, List.map_cons, List.map_nil, hs, hx, hrun]
  exact h
/-- What is left is gathered in a disk. -/
def CrG (w1 : World) (u : Value) (ls : List DF) (wx : World) : Prop := OwnF (w1.heap.size + 1) wx u ls ∧ Below w1.heap.size w1 wx ∧ wx.heap[w1.heap.size]? = some (.cells #[u, .bool false, .int .i64 (-1)] 24 (0, 0))
theorem CrG.lt {w1 wx : World} {u : Value} {ls : List DF} (h : CrG w1 u ls wx) : w1.heap.size < wx.heap.size := (Array.getElem?_eq_some_iff.1 h.2.2).1
theorem CrG.below {w1 wx wy : World} {u : Value} {ls : List DF} (h : CrG w1 u ls wx) (hb : Below wx.heap.size wx wy) : CrG w1 u ls wy :=
  ⟨h.1.below hb, h.2.1.trans (hb.mono h.2.1.size), by rw [hb.block _ h.lt]; exact h.2.2⟩
theorem CrG.more {w1 W : World} {u : Value} {ls : List DF} (h : CrG w1 u ls W) (n d : ByteArray) (y : Int) (hm : (ls.length + 1) * 40 ≤ 140737488355328) :
    ∃ p' n' c' W' W4, (Builtin.append_ #[22, 22] 22 #[u, .slice (some ⟨W.heap.size, 0, none⟩) 1 1]).run Try.prog (W.alloc (.cells #[.string n, .string d, .int .i64 y] 41)) = .ok (.slice p' n' c') W' ∧ (∃ o, W'.cell? ⟨w1.heap.size, 0, none⟩ = some o) ∧ W'.frozen? ⟨w1.heap.size, 0, none⟩ = false ∧ W'.setCell ⟨w1.heap.size, 0, none⟩ (.slice p' n' c') = W4 ∧ CrG w1 (.slice p' n' c') (ls ++ [⟨n, d, y⟩]) W4 := by
  obtain ⟨i0, hi, hz0, hz1, hz2⟩ := info41
  have hA := h.below (one_below W (.cells #[.string n, .string d, .int .i64 y] 41))
  have hlt := h.lt
  obtain ⟨hown, hbw, hg⟩ := hA
  unfold OwnF at hown
  obtain ⟨v', W', e, h2, h3, h4, h5⟩ := run_append_own_at (P := Try.prog) (W.alloc (.cells #[.string n, .string d, .int .i64 y] 41)) (w1.heap.size + 1) 22 22 41 i0 _ 3 40 Try.underlying22 hi hz0 hz1 hz2 rfl (by omega) u ls.length (flat ls) hown ⟨W.heap.size, 0, none⟩ 1 1 [.string n, .string d, .int .i64 y] rfl (cell_three _ _ _ _ _) (fun x hx => by simp at hx; rcases hx with rfl | rfl | rfl <;> rfl) (by unfold maxLen; omega) (by omega) (by simp; omega)
  have hO : OwnF (w1.heap.size + 1) W' v' (ls ++ [⟨n, d, y⟩]) := by unfold OwnF; rw [List.length_append, flat_append, flat_single]; exact h2
  have hne : u.ownBlock ≠ some w1.heap.size := fun e => by have := (hown.lt _ e).1; omega
  have hg' : W'.heap[w1.heap.size]? = some (.cells #[u, .bool false, .int .i64 (-1)] 24 (0, 0)) := by
    rw [h3.block _ (by simp; omega) (fun e => hne e.symm)]; exact hg
  have hbW : Below w1.heap.size w1 W' := Below.grown hbw h3 (by simp; omega) (fun j hj => by have := (hown.lt _ hj).1; omega)
  obtain ⟨p', c', rfl⟩ := hO.form
  obtain ⟨s1, s2, hg4, hbl4⟩ := setT_row hg' (k := 0) (by simp) (.slice p' (ls ++ [(⟨n, d, y⟩ : DF)]).length c')
  obtain ⟨W4, hW4⟩ : ∃ W4, W'.setCell ⟨w1.heap.size, 0, none⟩ (.slice p' (ls ++ [(⟨n, d, y⟩ : DF)]).length c') = W4 := ⟨_, rfl⟩
  rw [hW4] at hg4 hbl4
  obtain ⟨o3, o4⟩ := set1_other hW4
  obtain ⟨pu, cu, rfl⟩ := OwnF.form (show OwnF (w1.heap.size + 1) _ u ls from hown)
  exact ⟨p', _, c', W', W4, e, s1, s2, hW4, hO.but hg' o3, hbl4 _ _ hbW (Nat.le_refl _), hg4⟩
/-- What is left of a file, in the reference's words. -/
theorem crF_all {keep : Int} {f : DF} (h : 0 ≤ f.y ∧ f.y ≤ (f.d.size : Int)) (hk : (f.d.size : Int) - f.y < keep) : lft keep f = (f.d.size : Int) := by unfold lft; omega
theorem crF_some {keep : Int} {f : DF} (h : 0 ≤ f.y ∧ f.y ≤ (f.d.size : Int)) (hk : ¬ (f.d.size : Int) - f.y < keep) (h0 : 0 < keep) : lft keep f = f.y + keep := by unfold lft; omega
theorem crF_none {keep : Int} {f : DF} (h : 0 ≤ f.y ∧ f.y ≤ (f.d.size : Int)) (h0 : ¬ 0 < keep) : lft keep f = f.y := by unfold lft; omega
theorem take_map (keep : Int) (fs : List DF) (i : Nat) (h : i < fs.length) : (fs.take (i + 1)).map (crF keep) = (fs.take i).map (crF keep) ++ [crF keep fs[i]] := by
  rw [List.take_succ_eq_append_getElem h, List.map_append]; rfl
set_option maxRecDepth 100000 in
set_option maxHeartbeats 2000000 in
theorem refCrash_any (v : Value) (dn : Bool) (fu keep : Int) (fs : List DF) (w : World) (h : FsL w v fs) :
    Calls Try.prog 15 #[.agg #[v, .bool dn, .int .i64 fu], .int .i64 keep] w fun e w' => Did (CrR fs keep) w e w' := by
  obtain ⟨W0, hW0, hb0, hs0, hx⟩ := crbox w v dn fu
  have HX : Hid _ := hx
  have C1 : Hid (Calls Try.prog 19 #[.agg #[v, .bool dn, .int .i64 fu]] W0 fun e w' => e = .returned (.int .i64 (chE fs)) ∧ Below W0.heap.size W0 w') := refCheck_any v dn fu fs W0 (h.below hb0)
  have HB0 : Hid (Below w.heap.size w W0) := hb0
  have HS0 : Hid (W0.heap.size = w.heap.size + 2) := hs0
  obtain ⟨⟨x0, x1, x2⟩, _⟩ := hx W0 (Below.refl _ _)
  have HFL : Hid (FsL w v fs) := h
  have hmany := h.many
  obtain ⟨p, c, rfl, _⟩ := h
  by_cases hok : okF fs = true
  · have HD : Hid (CrR fs keep = ⟨fs.map (crF keep), false, -1, 0⟩) := by show _ = _; unfold CrR; rw [if_pos hok]
    have HO : Hid (OkF fs) := okF_iff.1 hok
    have hch : chE fs = 0 := by unfold chE; rw [if_pos hok]
    rw [hch] at C1
    clear hch hx hb0 hs0 hok
    go_enter Try.func15, Try.ntmps15
    go_wp2_with fail
    refine C1.out.mono ?_
    rintro e w1 ⟨rfl, hb1⟩
    obtain ⟨⟨a0, a1, a2⟩, hg1⟩ := HX.out w1 hb1
    have HB1 : Hid (Below W0.heap.size W0 w1) := hb1
    obtain ⟨W2, hW2⟩ : ∃ W2, w1.alloc (.cells #[.slice none 0 0, .bool false, .int .i64 (-1)] 24) = W2 := ⟨_, rfl⟩
    have hb2 : Below w1.heap.size w1 W2 := by rw [← hW2]; exact one_below _ _
    have hJ0 : CrG w1 (.slice none 0 0) ((fs.take 0).map (crF keep)) W2 := ⟨World.ownsRow_nil _ _ _ _, hb2, by rw [← hW2]; exact heap_alloc_new w1 _⟩
    obtain ⟨⟨a0, a1, a2⟩, hg1⟩ := HX.out W2 (hb1.trans (hb2.mono hb1.size))
    have HJ0 : Hid (CrG w1 (.slice none 0 0) ((fs.take 0).map (crF keep)) W2) := hJ0
    clear C1 hb1 x0 x1 x2 hg1 hb2 hJ0
    go_wp2_with fail
    go_loopg [18] fs.length (fun gf s18 wx => ∃ (i : Nat) (u : Value), s18 = .int .i64 i ∧ i ≤ fs.length ∧ fs.length ≤ i + gf ∧ Hid (CrG w1 u ((fs.take i).map (crF keep)) wx))
    case atStart => exact ⟨0, _, rfl, by omega, by omega, HJ0⟩
    case round =>
      clear HJ0
      obtain ⟨i, u, rfl, hi1, hgf, HJ⟩ := hrel
      by_cases hi : i < fs.length
      · obtain ⟨g', rfl⟩ : ∃ g', gk = g' + 1 := ⟨gk - 1, by omega⟩
        obtain ⟨_, _, hq, _, _, hp⟩ := HFL.out
        simp only [Value.slice.injEq, true_and] at hq
        obtain ⟨rfl, rfl⟩ := hq
        obtain ⟨b, o, rfl, hlt, hc⟩ := hp (by omega)
        obtain ⟨c0, c1, c2⟩ := (hc.below hlt (HB0.out.trans ((HB1.out.trans (HJ.out.2.1.mono HB1.out.size)).mono HB0.out.size))) i hi
        have hfy := HO.out.2.2.1 _ (List.getElem_mem hi)
        have hfs := (HFL.out.small _ (List.getElem_mem hi)).2
        have hst := take_map keep fs i hi
        have hfa := crF_all (keep := keep) hfy
        have hfb := crF_some (keep := keep) hfy
        have hfc := crF_none (keep := keep) hfy
        have hcr : crF keep fs[i] = ⟨fs[i].n, fs[i].d.extract 0 (lft keep fs[i]).toNat, lft keep fs[i]⟩ := rfl
        rw [hcr] at hst
        obtain ⟨⟨n, d, y⟩, hf⟩ : ∃ f, fs[i] = f := ⟨_, rfl⟩
        rw [hf] at c0 c1 c2 hfy hfs hst hfa hfb hfc
        simp only at c0 c1 c2 hfy hfs hst hfa hfb hfc
        obtain ⟨L, hL⟩ : ∃ L, lft keep ⟨n, d, y⟩ = L := ⟨_, rfl⟩
        rw [hL] at hst hfa hfb hfc
        obtain ⟨ls, hls⟩ : ∃ ls, (fs.take i).map (crF keep) = ls := ⟨_, rfl⟩
        have hln : ls.length ≤ i := by rw [← hls, List.length_map, List.length_take]; omega
        rw [hls] at HJ hst
        have hbo : (ls.length + 1) * 40 ≤ 140737488355328 := by omega
        obtain ⟨pu, cu, rfl⟩ := HJ.out.1.form
        have z0 : (0 : Int) ≤ (i : Int) := by omega
        have z1 : (i : Int) < (fs.length : Int) := by omega
        obtain ⟨W1, hW1⟩ : ∃ W1, wr.alloc (.cells #[.string n, .string d, .int .i64 y] 41) = W1 := ⟨_, rfl⟩
        have hb1 : Below wr.heap.size wr W1 := by rw [← hW1]; exact one_below _ _
        have hbx : W1.heap[wr.heap.size]? = some (.cells #[.string n, .string d, .int .i64 y] 41 (0, 0)) := by rw [← hW1]; exact heap_alloc_new wr _
        have f0 : W1.cell? ⟨wr.heap.size, 0, none⟩ = some (.string n) := cell_of_row (k := 0) hbx rfl
        have f1 : W1.cell? ⟨wr.heap.size, 1, none⟩ = some (.string d) := cell_of_row (k := 1) hbx rfl
        have f2 : W1.cell? ⟨wr.heap.size, 2, none⟩ = some (.int .i64 y) := cell_of_row (k := 2) hbx rfl
        have hG1 := HJ.out.below hb1
        have hG2 : CrG w1 (.slice pu ls.length cu) ls W1.drew := hG1.below ((Below.refl _ _).drew)
        have k0 : W1.drew.cell? ⟨w1.heap.size, 0, none⟩ = some (.slice pu ls.length cu) := cell_of_row (k := 0) hG2.2.2 rfl
        have f0' : W1.drew.cell? ⟨wr.heap.size, 0, none⟩ = some (.string n) := f0
        have f1' : W1.drew.cell? ⟨wr.heap.size, 1, none⟩ = some (.string d) := f1
        have hsb : IntKind.i64.wrap ((d.size : Int) - y) = (d.size : Int) - y := by rw [IntKind.wrap_i64]; omega
        have HG2 : Hid (CrG w1 (.slice pu ls.length cu) ls W1.drew) := hG2
        clear hL hf hcr hls hG1 hG2 hbx hb1 hc hp HJ
        by_cases hk : (d.size : Int) - y < keep
        · have hL := hfa hk
          have HST : Hid ((fs.take (i + 1)).map (crF keep) = ls ++ [⟨n, d, (d.size : Int)⟩]) := by rw [hL] at hst; show _ = _; rw [hst]; simp
          clear hL hst hfa hfb hfc
          obtain ⟨p', n', c', W', W4, e0, ⟨oq, cq⟩, fq, hW4, hG4⟩ := HG2.out.more n d (d.size : Int) hbo
          have e1 : (Builtin.append_ #[22, 22] 22 #[.slice pu ls.length cu, .slice (some ⟨W1.heap.size, 0, none⟩) 1 1]).run Try.prog (W1.alloc (.cells #[.string n, .string d, .int .i64 (d.size : Int)] 41)).drew = .ok (.slice p' n' c') W' := e0
          have k0' : (W1.alloc (.cells #[.string n, .string d, .int .i64 (d.size : Int)] 41)).drew.cell? ⟨w1.heap.size, 0, none⟩ = some (.slice pu ls.length cu) := by
            have : (W1.drew.alloc (.cells #[.string n, .string d, .int .i64 (d.size : Int)] 41)).cell? ⟨w1.heap.size, 0, none⟩ = some (.slice pu ls.length cu) := by rw [(one_below _ _).cell (p := ⟨w1.heap.size, _, none⟩) HG2.out.lt]; exact k0
            exact this
          have HJ4 : Hid (CrG w1 (.slice p' n' c') ((fs.take (i + 1)).map (crF keep)) W4) := by rw [HST.out]; exact hG4
          clear hG4 e0 HG2 HST
          go_wp2_with fail
          go_region_law ((refine step_append22 _ rfl _ _ rfl _ _ _ _ rfl rfl e1 ?_))
          all_goals
            clear e1 cq fq k0 k0' f0' f1'
            go_wp2_with fail
            go_roundg g'
            case measure => omega
            case rel => exact ⟨i + 1, _, by go_num, by omega, by omega, HJ4⟩
        · by_cases h0 : 0 < keep
          · have hL := hfb hk h0
            have HST : Hid ((fs.take (i + 1)).map (crF keep) = ls ++ [⟨n, d.extract 0 L.toNat, L⟩]) := hst
            have hL1 : IntKind.i64.wrap (y + keep) = L := by rw [IntKind.wrap_i64, hL]; omega
            have hL2 : 0 ≤ L ∧ L ≤ (d.size : Int) := by omega
            obtain ⟨hL3, hL4⟩ := hL2
            clear hL hst hfa hfb hfc
            obtain ⟨p', n', c', W', W4, e0, ⟨oq, cq⟩, fq, hW4, hG4⟩ := HG2.out.more n (d.extract 0 L.toNat) L hbo
            have e1 : (Builtin.append_ #[22, 22] 22 #[.slice pu ls.length cu, .slice (some ⟨W1.heap.size, 0, none⟩) 1 1]).run Try.prog (W1.alloc (.cells #[.string n, .string (d.extract 0 L.toNat), .int .i64 L] 41)).drew = .ok (.slice p' n' c') W' := e0
            have k0' : (W1.alloc (.cells #[.string n, .string (d.extract 0 L.toNat), .int .i64 L] 41)).drew.cell? ⟨w1.heap.size, 0, none⟩ = some (.slice pu ls.length cu) := by
              have : (W1.drew.alloc (.cells #[.string n, .string (d.extract 0 L.toNat), .int .i64 L] 41)).cell? ⟨w1.heap.size, 0, none⟩ = some (.slice pu ls.length cu) := by rw [(one_below _ _).cell (p := ⟨w1.heap.size, _, none⟩) HG2.out.lt]; exact k0
              exact this
            have HJ4 : Hid (CrG w1 (.slice p' n' c') ((fs.take (i + 1)).map (crF keep)) W4) := by rw [HST.out]; exact hG4
            clear hG4 e0 HG2 HST
            go_wp2_with fail
            go_region_law ((refine step_append22 _ rfl _ _ rfl _ _ _ _ rfl rfl e1 ?_))
            all_goals
              clear e1 cq fq k0 k0' f0' f1'
              go_wp2_with fail
              go_roundg g'
              case measure => omega
              case rel => exact ⟨i + 1, _, by go_num, by omega, by omega, HJ4⟩
          · have hL := hfc h0
            have HST : Hid ((fs.take (i + 1)).map (crF keep) = ls ++ [⟨n, d.extract 0 y.toNat, y⟩]) := by rw [hL] at hst; exact hst
            obtain ⟨hL3, hL4⟩ := hfy
            clear hL hst hfa hfb hfc
            obtain ⟨p', n', c', W', W4, e0, ⟨oq, cq⟩, fq, hW4, hG4⟩ := HG2.out.more n (d.extract 0 y.toNat) y hbo
            have e1 : (Builtin.append_ #[22, 22] 22 #[.slice pu ls.length cu, .slice (some ⟨W1.heap.size, 0, none⟩) 1 1]).run Try.prog (W1.alloc (.cells #[.string n, .string (d.extract 0 y.toNat), .int .i64 y] 41)).drew = .ok (.slice p' n' c') W' := e0
            have k0' : (W1.alloc (.cells #[.string n, .string (d.extract 0 y.toNat), .int .i64 y] 41)).drew.cell? ⟨w1.heap.size, 0, none⟩ = some (.slice pu ls.length cu) := by
              have : (W1.drew.alloc (.cells #[.string n, .string (d.extract 0 y.toNat), .int .i64 y] 41)).cell? ⟨w1.heap.size, 0, none⟩ = some (.slice pu ls.length cu) := by rw [(one_below _ _).cell (p := ⟨w1.heap.size, _, none⟩) HG2.out.lt]; exact k0
              exact this
            have HJ4 : Hid (CrG w1 (.slice p' n' c') ((fs.take (i + 1)).map (crF keep)) W4) := by rw [HST.out]; exact hG4
            clear hG4 e0 HG2 HST
            go_wp2_with fail
            go_region_law ((refine step_append22 _ rfl _ _ rfl _ _ _ _ rfl rfl e1 ?_))
            all_goals
              clear e1 cq fq k0 k0' f0' f1'
              go_wp2_with fail
              go_roundg g'
              case measure => omega
              case rel => exact ⟨i + 1, _, by go_num, by omega, by omega, HJ4⟩
      · have z1 : ¬ (i : Int) < (fs.length : Int) := by omega
        have hG := HJ.out
        rw [List.take_of_length_le (by omega)] at hG
        obtain ⟨hO, hb, hg⟩ := hG
        obtain ⟨pu, cu, rfl⟩ := hO.form
        have hbb := HB1.out.trans (hb.mono HB1.out.size)
        obtain ⟨_, hg1⟩ := HX.out wr hbb
        have d0 : wr.cell? ⟨w1.heap.size, 0, none⟩ = some (.slice pu (fs.map (crF keep)).length cu) := cell_of_row (k := 0) hg rfl
        have d1 : wr.cell? ⟨w1.heap.size, 1, none⟩ = some (.bool false) := cell_of_row (k := 1) hg rfl
        have d2 : wr.cell? ⟨w1.heap.size, 2, none⟩ = some (.int .i64 (-1)) := cell_of_row (k := 2) hg rfl
        obtain ⟨Va, Vb, Vc, hVa, hVb, hVc, ⟨pa, ka⟩, ga, ⟨pb, kb⟩, gb, ⟨pc, kc⟩, gc, hbv, _, r0, r1, r2⟩ := set_disk hg1 (.slice pu (fs.map (crF keep)).length cu) (.bool false) (.int .i64 (-1))
        obtain ⟨o5, o6⟩ := set3_other hVa hVb hVc
        have hLr : FsL wr (.slice pu (fs.map (crF keep)).length cu) (fs.map (crF keep)) := hO.files (by rw [List.length_map]; exact hmany) (crF_small HFL.out.small)
        have HF : Hid (FsL Vc (.slice pu (fs.map (crF keep)).length cu) (fs.map (crF keep)) ∧ Below w.heap.size w Vc) := ⟨hLr.but hg1 o5 o6, hbv _ _ (HB0.out.trans (hbb.mono HB0.out.size)) (by omega)⟩
        obtain ⟨N, hN⟩ : ∃ N, (fs.map (crF keep)).length = N := ⟨_, rfl⟩
        rw [hN] at d0 hVa r0 HF
        clear hO hb hg hbb hg1 hbv o5 o6 hLr hN HJ
        go_wp2_with fail
        exact bodyPost_ret (v := .tuple #[.agg #[.slice pu N cu, .bool false, .int .i64 (-1)], .int .i64 0]) (by simp [results, Try.results15, go_sem, r0, r1, r2]) rfl (by rw [HD.out]; exact ⟨_, _, _, rfl, HF.out.1, HF.out.2⟩)
  · have HD : Hid (CrR fs keep = ⟨[], false, 0, 6⟩) := by show _ = _; unfold CrR; rw [if_neg hok]
    have hch : chE fs = 6 := by unfold chE; rw [if_neg hok]
    rw [hch] at C1
    clear hch hx hb0 hs0 hok
    go_enter Try.func15, Try.ntmps15
    go_wp2_with fail
    refine C1.out.mono ?_
    rintro e w1 ⟨rfl, hb1⟩
    obtain ⟨_, hg⟩ := HX.out w1 hb1
    obtain ⟨Wa, Wb, Wc, hWa, hWb, hWc, ⟨oa, ca⟩, fa, ⟨ob, cb⟩, fb, ⟨oc, cc⟩, fc, hbl, _, d0, d1, d2⟩ := set_disk hg (.slice none 0 0) (.bool false) (.int .i64 0)
    have HB : Hid (Below w.heap.size w Wc) := hbl _ _ (HB0.out.trans (hb1.mono HB0.out.size)) (by omega)
    clear hg hbl hb1 C1 x0 x1 x2
    go_wp2_with fail
    exact bodyPost_ret (v := .tuple #[.agg #[.slice none 0 0, .bool false, .int .i64 0], .int .i64 6]) (by simp [results, Try.results15, go_sem, d0, d1, d2]) rfl (by rw [HD.out]; exact ⟨none, 0, 0, rfl, ⟨none, 0, rfl, by simp, fun f hf => by simp at hf, fun h => by simp at h⟩, HB.out⟩)
end Go.Proofs.Ytedjfbkpebmggaa
