/- What the reference's Sort answers. -/
import Derived.Test.YtaekbmpiohmciaaDoorXk
namespace Go.Proofs.YtaekbmpiohmciaaDoor
open Go.Shelf Go.RowKit Go.Lib Go.Sort
set_option linter.unusedVariables false
set_option linter.unusedSimpArgs false
attribute [local go_sem ↓] Go.wp_at_zero Go.wp_at_succ
theorem blkN0 (wr : World) (o : Obj) : (wr.alloc o).drew.heap[wr.heap.size]? = some o := by
  show (wr.alloc o).heap[wr.heap.size]? = some o
  simp only [push_at]; simp
theorem blkN1 (wr : World) (o1 o2 : Obj) : ((wr.alloc o1).alloc o2).drew.heap[wr.heap.size]? = some o1 := by
  show ((wr.alloc o1).alloc o2).heap[wr.heap.size]? = some o1
  simp only [push_at, size_at]
  rw [if_neg (by omega)]; simp
theorem blkN2 (wr : World) (o1 o2 : Obj) : ((wr.alloc o1).alloc o2).drew.heap[wr.heap.size + 1]? = some o2 := by
  show ((wr.alloc o1).alloc o2).heap[wr.heap.size + 1]? = some o2
  simp only [push_at, size_at]; simp
theorem belN1 (wr : World) (o : Obj) : Below wr.heap.size wr (wr.alloc o).drew := ((Below.refl _ _).alloc (Nat.le_refl _) _).drew
theorem belN2 (wr : World) (o1 o2 : Obj) : Below wr.heap.size wr ((wr.alloc o1).alloc o2).drew := (((Below.refl _ _).alloc (Nat.le_refl _) _).alloc (by rw [size_at]; omega) _).drew
theorem IsSort.mem {rs : List (List Val)} {k : Nat} {out : List (List Val)} (h : IsSort rs k out) (hk : k ≤ rs.length) : ∀ x ∈ out, x ∈ rs := by
  obtain ⟨d, p, _, rfl⟩ := h
  intro x hx
  obtain ⟨i, hi, rfl⟩ := List.mem_map.1 hx
  have : i < k := by simpa using p.subset hi
  rw [getElem!_pos rs i (by omega)]
  exact List.getElem_mem _
theorem toNat_pred (a : Nat) (h : 0 < a) : ((a : Int) - 1).toNat = a - 1 := by omega
theorem Part.form {w1 W : World} {v : Value} {ks : List (List Val)} (h : Part w1 W v ks) : ∃ q d, v = .slice q ks.length d := by
  obtain ⟨us, ⟨_, ⟨rfl, h0⟩ | ⟨g, cap, cur, rfl, _⟩⟩, _⟩ := h
  · exact ⟨none, 0, by rw [h0]⟩
  · exact ⟨_, cap, rfl⟩
set_option maxRecDepth 100000 in
set_option maxHeartbeats 16000000 in
theorem refSort_any (v : Value) (rs : List (List Val)) (w : World) (h : RowsL w v rs) (hn : rs.length * 24 ≤ 140737488355328) (hr : ∀ r ∈ rs, r.length * 32 ≤ 140737488355328) (hs : ∀ r ∈ rs, SmallR r) :
    Calls Tryd.prog 33 #[v] w fun e w' => ∃ u out, e = .returned u ∧ IsSort rs rs.length out ∧ RowsL w' u out ∧ Below w.heap.size w w' := by
  have C1 : Hid (Calls Tryd.prog 30 #[v] w fun e w' => ∃ u, e = .returned u ∧ GathJ w rs.length rs u w') := refCopy_any v rs w h hn hr
  have HS : Hid (∀ r ∈ rs, SmallR r) := hs
  clear h hr hs
  go_enter Tryd.func33, Tryd.ntmps33
  go_wp2_with fail
  refine C1.out.mono ?_
  rintro e w1 ⟨u, rfl, hG⟩
  have HB1 : Hid (Below w.heap.size w w1) := hG.below
  obtain ⟨p, c, rfl, hl, hp⟩ := hG.rows (by omega)
  have HP : Hid (0 < rs.length → ∃ b o, p = some ⟨b, o, none⟩ ∧ b < w1.heap.size ∧ ∀ j (h : j < rs.length), ∃ u, w1.cell? ⟨b, o + j, none⟩ = some u ∧ RowV w1 u rs[j]) := hp
  clear hp hG C1
  go_wp2_with fail
  go_loopg [3, 10] rs.length (fun gf s3 s10 wx => ∃ (i : Nat) (ks : List (List Val)) (q : Option Addr) (m d : Nat), s3 = .slice q m d ∧ s10 = .int .i64 i ∧ i ≤ rs.length ∧ rs.length ≤ i + gf ∧ m ≤ i ∧ i ≤ m ∧ Hid (IsSort rs i ks) ∧ Hid (OutL wx (.slice q m d) ks) ∧ Hid (Below w1.heap.size w1 wx) ∧ Hid (ks.length = m))
  case atStart => exact ⟨0, [], none, 0, 0, rfl, rfl, by omega, by omega, by omega, by omega, IsSort.start rs, OutL.start _, Below.refl _ _, (show _ = _ by rfl)⟩
  case round =>
    obtain ⟨i, ks, q, m, d, rfl, rfl, hi1, hgf, hm1, hm2, HI, HO, HB, HM⟩ := hrel
    by_cases hi : i < rs.length
    · obtain ⟨g', rfl⟩ : ∃ g', gk = g' + 1 := ⟨gk - 1, by omega⟩
      obtain ⟨b, o, rfl, hBb, hc⟩ := HP.out (by omega)
      obtain ⟨u, x0, x1⟩ := hc i hi
      rw [← HB.out.cell (p := ⟨b, _, none⟩) hBb] at x0
      obtain ⟨r, hr⟩ : ∃ r, rs[i] = r := ⟨_, rfl⟩
      have HRr : Hid (rs[i]! = r) := by show _ = _; rw [getElem!_pos rs i hi]; exact hr
      have HSr : Hid (SmallR r) := by rw [← hr]; exact HS.out _ (List.getElem_mem hi)
      rw [hr] at x1
      have HU : Hid (RowV w1 u r) := x1
      obtain ⟨pu, nu, cu, rfl⟩ := x1.slice
      have hz0 : (0 : Int) ≤ (i : Int) := by omega
      have hz1 : (i : Int) < (rs.length : Int) := by omega
      clear hc x1 hr
      obtain ⟨V0, hV0⟩ : ∃ V0 : World, V0 = wr := ⟨_, rfl⟩
      subst hV0
      go_wp2_with fail
      go_loopg [6] m (fun gf s6 wx => ∃ a : Nat, s6 = .int .i64 a ∧ a ≤ m ∧ a ≤ gf ∧ Hid (Below V0.heap.size V0 wx) ∧ Hid (∀ j (h : j < ks.length), a ≤ j → 0 < cmpR ks[j] r))
      case atStart => exact ⟨m, rfl, by omega, by omega, Below.refl _ _, fun j h1 h2 => by have := HM.out; omega⟩
      case round =>
        clear x0 hz0 hz1
        obtain ⟨a, rfl, ha1, hag, HBv, HA⟩ := hrel
        have HBw : Hid (Below w1.heap.size w1 wr) := HB.out.trans (HBv.out.mono HB.out.size)
        have HOw : Hid (OutL wr (.slice q m d) ks) := HO.out.below HBv.out
        by_cases hgo : 0 < a ∧ ∃ h : a - 1 < ks.length, 0 < cmpR ks[a - 1] r
        · obtain ⟨ha0, hax, hcmp⟩ := hgo
          obtain ⟨g2, rfl⟩ : ∃ g2, gk = g2 + 1 := ⟨gk - 1, by omega⟩
          obtain ⟨_, ⟨q', c', hv, _, hx⟩⟩ := HOw.out
          obtain ⟨b2, o2, e2, hB2, hcell⟩ := hx (by omega)
          simp only [Value.slice.injEq] at hv
          obtain ⟨rfl, hv2, rfl⟩ := hv
          subst e2
          obtain ⟨u2, y0, y1⟩ := hcell (a - 1) hax
          have CC : Hid (Calls Tryd.prog 58 #[u2, .slice pu nu cu] wr fun e w' => e = .returned (.int .i64 (cmpR ks[a - 1] r)) ∧ Below wr.heap.size wr w') := refRows_any _ _ _ _ wr y1 (HU.out.below HBw.out) (HS.out _ (HI.out.mem hi1 _ (List.getElem_mem hax))) HSr.out
          obtain ⟨p2, n2, c2, rfl⟩ := y1.slice
          have HA2 : Hid (∀ j (h : j < ks.length), a - 1 ≤ j → 0 < cmpR ks[j] r) := fun j h1 h2 => by
            by_cases e : j = a - 1
            · subst e; exact hcmp
            · exact HA.out j h1 (by omega)
          obtain ⟨C, hC⟩ : ∃ C, cmpR ks[a - 1] r = C := ⟨_, rfl⟩
          rw [hC] at CC hcmp
          have hz2 : (0 : Int) < (a : Int) := by omega
          have ec : ((a : Int) - 1).toNat = a - 1 := toNat_pred a ha0
          have pc : (0 : Int) ≤ (a : Int) - 1 := by omega
          have bc : (a : Int) - 1 < (m : Int) := by omega
          have rc : IntKind.i64.wrap ((a : Int) - 1) = (a : Int) - 1 := by rw [IntKind.wrap_i64]; omega
          obtain ⟨jN, hjN⟩ : ∃ jN, a - 1 = jN := ⟨_, rfl⟩
          rw [hjN] at y0 ec
          have HjN : Hid (a - 1 = jN) := hjN
          clear y1 hcell hx hC hv2 hax hjN HA
          go_wp2_with fail
          refine CC.out.mono ?_
          rintro e w2 ⟨rfl, hb2⟩
          have HB2 : Hid (Below V0.heap.size V0 w2) := HBv.out.trans (hb2.mono HBv.out.size)
          clear hb2 CC y0
          go_wp2_with fail
          go_roundg g2
          case measure => omega
          case rel => exact ⟨a - 1, by congr 1; omega, by omega, by omega, HB2, HA2⟩
        · have HE : Hid (∀ h : a - 1 < ks.length, 0 < a → ¬ 0 < cmpR ks[a - 1] r) := fun h1 h2 h3 => hgo ⟨h2, h1, h3⟩
          clear hgo
          by_cases ha0 : 0 < a
          · have hax : a - 1 < ks.length := by have := HM.out; omega
            obtain ⟨_, ⟨q', c', hv, _, hx⟩⟩ := HOw.out
            obtain ⟨b2, o2, e2, hB2, hcell⟩ := hx (by omega)
            simp only [Value.slice.injEq] at hv
            obtain ⟨rfl, hv2, rfl⟩ := hv
            subst e2
            obtain ⟨u2, y0, y1⟩ := hcell (a - 1) hax
            have CC : Hid (Calls Tryd.prog 58 #[u2, .slice pu nu cu] wr fun e w' => e = .returned (.int .i64 (cmpR ks[a - 1] r)) ∧ Below wr.heap.size wr w') := refRows_any _ _ _ _ wr y1 (HU.out.below HBw.out) (HS.out _ (HI.out.mem hi1 _ (List.getElem_mem hax))) HSr.out
            obtain ⟨p2, n2, c2, rfl⟩ := y1.slice
            have hcmp := HE.out hax ha0
            obtain ⟨C, hC⟩ : ∃ C, cmpR ks[a - 1] r = C := ⟨_, rfl⟩
            rw [hC] at CC hcmp
            have hz2 : (0 : Int) < (a : Int) := by omega
            have ec : ((a : Int) - 1).toNat = a - 1 := toNat_pred a ha0
            have pc : (0 : Int) ≤ (a : Int) - 1 := by omega
            have bc : (a : Int) - 1 < (m : Int) := by omega
            have rc : IntKind.i64.wrap ((a : Int) - 1) = (a : Int) - 1 := by rw [IntKind.wrap_i64]; omega
            obtain ⟨jN, hjN⟩ : ∃ jN, a - 1 = jN := ⟨_, rfl⟩
            rw [hjN] at y0 ec
            clear y1 hcell hx hC hv2 hax hjN hB2
            go_wp2_with fail
            refine CC.out.mono ?_
            rintro e WW ⟨rfl, hb2⟩
            have HB2 : Hid (Below wr.heap.size wr WW) := hb2
            have HO2 : Hid (OutL WW (.slice (some ⟨b2, o2, none⟩) m d) ks) := HOw.out.below hb2
            have HBW : Hid (Below w1.heap.size w1 WW) := HBw.out.trans (hb2.mono HBw.out.size)
            clear hb2 CC y0 ec pc bc rc
            obtain ⟨q1, m1, c1, hs1, hr1⟩ := slice_front HO2.out a (by have := HM.out; omega)
            obtain ⟨q2, m2, c2, hs2, hr2⟩ := slice_back HO2.out a (by have := HM.out; omega)
            have RF : Hid (RowsL WW (.slice q1 m1 c1) (ks.take a)) := hr1
            have RB : Hid (RowsL WW (.slice q2 m2 c2) (ks.drop a)) := hr2
            have RU : Hid (RowV WW (.slice pu nu cu) r) := HU.out.below HBW.out
            have n1 : (ks.take a).length ≤ ks.length := by simp; omega
            have n2 : (ks.take a).length + (ks.drop a).length ≤ ks.length := by simp; omega
            have n3 : ks.length ≤ i := by have := HM.out; omega
            clear hr1 hr2 HB2 HO2
            go_wp2_with fail
            go_region_held3 (fun w' => True) (trivial)
              ((first
                | (refine step_A _ WW rfl _ _ rfl _ _ (ks.take a) rfl rfl (by first | exact blkN0 _ _ | exact blkN1 _ _ _ | exact blkN2 _ _ _) (by omega) (by first | exact belN1 _ _ | exact belN2 _ _ _) RF.out (by omega) ?_; intro va Wa hpa hka hsa hba)
                | (refine step_B _ WW rfl _ _ rfl va (ks.take a) _ _ (.slice pu nu cu) r rfl (hpa.later ((Below.refl _ _).alloc (Nat.le_refl _) _)) rfl (heap_alloc_new _ _) RU.out (hba.alloc hba.size _) (by omega) ?_; intro vb Wb hpb hbb)
                | (refine step_B _ WW rfl _ _ rfl va (ks.take a) _ _ (.slice pu nu cu) r rfl hpa rfl (by first | (rw [hka _ (by show _ < (World.alloc _ _).heap.size; rw [size_at, size_at]; omega) (by omega)]; first | exact blkN1 _ _ _ | exact blkN2 _ _ _)) RU.out hba (by omega) ?_; intro vb Wb hpb hbb)
                | (refine step_C _ WW rfl _ _ rfl vb (ks.take a ++ [r]) (ks.drop a) _ rfl hpb rfl RB.out hbb (by rw [List.length_append, List.length_singleton]; omega) ?_; intro vc Wc hpc hbc)))
            all_goals
              have HI2 : Hid (IsSort rs (i + 1) (ks.take a ++ [r] ++ ks.drop a)) := by
                show IsSort _ _ _
                have := HI.out.step (at' := a) (by have := HM.out; omega) (fun j hj h => by rw [HRr.out]; exact HA.out j hj h) (fun h1 h2 => by rw [HRr.out]; have := HE.out h1 h2; omega)
                rw [HRr.out] at this
                simpa using this
              obtain ⟨q3, d3, rfl⟩ := hpc.form
              have hl3 : (ks.take a ++ [r] ++ ks.drop a).length = i + 1 := HI2.out.length
              have HO3 : Hid (OutL Wc (.slice q3 (ks.take a ++ [r] ++ ks.drop a).length d3) (ks.take a ++ [r] ++ ks.drop a)) := hpc.out hbc (by omega)
              have HB3 : Hid (Below w1.heap.size w1 Wc) := HBW.out.trans (hbc.mono HBW.out.size)
              have HL3 : Hid ((ks.take a ++ [r] ++ ks.drop a).length = i + 1) := hl3
              rw [hl3] at HO3 ⊢
              clear hpc hbc hpb hbb hpa hka hsa hba hl3 n1 n2 n3 RF RB
              go_wp2_with fail
              go_roundg g'
              case measure => omega
              case rel => exact ⟨i + 1, _, q3, i + 1, d3, rfl, by go_num, by omega, by omega, by omega, by omega, HI2, HO3, HB3, HL3⟩
          · have e0 : a = 0 := by omega
            obtain ⟨WW, hWW⟩ : ∃ WW, WW = wr := ⟨_, rfl⟩
            have hz2 : ¬ (0 : Int) < (a : Int) := by omega
            have HB2 : Hid (Below wr.heap.size wr WW) := by rw [hWW]; exact Below.refl _ _
            have HO2 : Hid (OutL WW (.slice q m d) ks) := by rw [hWW]; exact HOw.out
            have HBW : Hid (Below w1.heap.size w1 WW) := by rw [hWW]; exact HBw.out
            subst hWW
            clear e0
            obtain ⟨q1, m1, c1, hs1, hr1⟩ := slice_front HO2.out a (by have := HM.out; omega)
            obtain ⟨q2, m2, c2, hs2, hr2⟩ := slice_back HO2.out a (by have := HM.out; omega)
            have RF : Hid (RowsL WW (.slice q1 m1 c1) (ks.take a)) := hr1
            have RB : Hid (RowsL WW (.slice q2 m2 c2) (ks.drop a)) := hr2
            have RU : Hid (RowV WW (.slice pu nu cu) r) := HU.out.below HBW.out
            have n1 : (ks.take a).length ≤ ks.length := by simp; omega
            have n2 : (ks.take a).length + (ks.drop a).length ≤ ks.length := by simp; omega
            have n3 : ks.length ≤ i := by have := HM.out; omega
            clear hr1 hr2 HB2 HO2
            go_wp2_with fail
            go_region_held3 (fun w' => True) (trivial)
              ((first
                | (refine step_A _ WW rfl _ _ rfl _ _ (ks.take a) rfl rfl (by first | exact blkN0 _ _ | exact blkN1 _ _ _ | exact blkN2 _ _ _) (by omega) (by first | exact belN1 _ _ | exact belN2 _ _ _) RF.out (by omega) ?_; intro va Wa hpa hka hsa hba)
                | (refine step_B _ WW rfl _ _ rfl va (ks.take a) _ _ (.slice pu nu cu) r rfl (hpa.later ((Below.refl _ _).alloc (Nat.le_refl _) _)) rfl (heap_alloc_new _ _) RU.out (hba.alloc hba.size _) (by omega) ?_; intro vb Wb hpb hbb)
                | (refine step_B _ WW rfl _ _ rfl va (ks.take a) _ _ (.slice pu nu cu) r rfl hpa rfl (by first | (rw [hka _ (by show _ < (World.alloc _ _).heap.size; rw [size_at, size_at]; omega) (by omega)]; first | exact blkN1 _ _ _ | exact blkN2 _ _ _)) RU.out hba (by omega) ?_; intro vb Wb hpb hbb)
                | (refine step_C _ WW rfl _ _ rfl vb (ks.take a ++ [r]) (ks.drop a) _ rfl hpb rfl RB.out hbb (by rw [List.length_append, List.length_singleton]; omega) ?_; intro vc Wc hpc hbc)))
            all_goals
              have HI2 : Hid (IsSort rs (i + 1) (ks.take a ++ [r] ++ ks.drop a)) := by
                show IsSort _ _ _
                have := HI.out.step (at' := a) (by have := HM.out; omega) (fun j hj h => by rw [HRr.out]; exact HA.out j hj h) (fun h1 h2 => by rw [HRr.out]; have := HE.out h1 h2; omega)
                rw [HRr.out] at this
                simpa using this
              obtain ⟨q3, d3, rfl⟩ := hpc.form
              have hl3 : (ks.take a ++ [r] ++ ks.drop a).length = i + 1 := HI2.out.length
              have HO3 : Hid (OutL Wc (.slice q3 (ks.take a ++ [r] ++ ks.drop a).length d3) (ks.take a ++ [r] ++ ks.drop a)) := hpc.out hbc (by omega)
              have HB3 : Hid (Below w1.heap.size w1 Wc) := HBW.out.trans (hbc.mono HBW.out.size)
              have HL3 : Hid ((ks.take a ++ [r] ++ ks.drop a).length = i + 1) := hl3
              rw [hl3] at HO3 ⊢
              clear hpc hbc hpb hbb hpa hka hsa hba hl3 n1 n2 n3 RF RB
              go_wp2_with fail
              go_roundg g'
              case measure => omega
              case rel => exact ⟨i + 1, _, q3, i + 1, d3, rfl, by go_num, by omega, by omega, by omega, by omega, HI2, HO3, HB3, HL3⟩
    · have hend : i = rs.length := by omega
      subst hend
      have hz1 : ¬ (rs.length : Int) < (rs.length : Int) := by omega
      clear HP
      go_wp2_with fail
      go_ret
      exact ⟨_, rfl, ks, HI.out, HO.out.2, HB1.out.trans (HB.out.mono HB1.out.size)⟩
end Go.Proofs.YtaekbmpiohmciaaDoor
