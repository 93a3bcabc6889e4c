/- The reference: what Drop and Copy answer. -/
import Derived.Test.YtnfgfbmkeiimlaaNt
import Derived.Test.YtnfgfbmkeiimlaaNv
namespace Go.Proofs.Ytnfgfbmkeiimlaa
open Go.Shelf Go.RowKit Go.Lib Go.Sort
set_option linter.unusedVariables false
set_option linter.unusedSimpArgs false
attribute [local go_sem ↓] Go.wp_at_zero Go.wp_at_succ
set_option maxRecDepth 100000 in
set_option maxHeartbeats 4000000 in
theorem refDrop_any (v : Value) (i : Int) (ps : List PK) (w : World) (h : PsL w v ps) :
    Calls Try.prog 13 #[.agg #[v], .int .i64 i] w fun e w' => NetE (dlvP ps i) (misE ps i) w e w' := by
  obtain ⟨W0, hW0, hb0, hs0, hx⟩ := boxes2 w v
  have HX : Hid _ := hx
  have HB0 : Hid (Below w.heap.size w W0) := hb0
  have x0 := (hx W0 (Below.refl _ _)).1
  have C1 : Hid (Calls Try.prog 11 #[.agg #[v], .int .i64 i] W0 fun e w' => NetP (dlvP ps i) (dlvK ps i) (misE ps i) W0 e w') := refDeliver_any v i ps W0 (h.below hb0)
  obtain ⟨qs, hq⟩ : ∃ qs, dlvP ps i = qs := ⟨_, rfl⟩
  obtain ⟨⟨kf, kt, kx⟩, hk⟩ : ∃ k, dlvK ps i = k := ⟨_, rfl⟩
  obtain ⟨E, hE⟩ : ∃ E, misE ps i = E := ⟨_, rfl⟩
  rw [hq, hk, hE] at C1
  rw [hq, hE]
  obtain ⟨p, c, rfl, _⟩ := h
  clear hq hk hE hx hb0 hs0
  go_enter Try.func13, Try.ntmps13
  go_wp2_with fail
  refine C1.out.mono ?_
  rintro e w1 ⟨p1, c1, rfl, hl1, hn1, hb1⟩
  obtain ⟨V, hV⟩ : ∃ V, (w1.alloc (.cells #[.slice p1 qs.length c1] 24)).alloc (.cells #[.int .i64 kf, .int .i64 kt, .string kx] 30) = V := ⟨_, rfl⟩
  have hbV : Below w1.heap.size w1 V := by rw [← hV]; exact two_below _ _ _
  have v0 : V.cell? ⟨w1.heap.size, 0, none⟩ = some (.slice p1 qs.length c1) := by
    refine cell_of_row (t := 24) (cur := #[.slice p1 qs.length c1]) ?_ rfl
    rw [← hV, heap_alloc_old _ _ (by simp)]; exact heap_alloc_new w1 _
  have hBV : Below W0.heap.size W0 V := hb1.trans (hbV.mono hb1.size)
  obtain ⟨Wz, hWz, z1, z2, z3, z4, z5, _, _, z6⟩ := set_box (HX.out V hBV).2 (hl1.below hbV)
  have HF : Hid (PsL Wz (.slice p1 qs.length c1) qs ∧ NewP w.heap.size p1 ∧ Below w.heap.size w Wz) := ⟨z5, hn1.mono HB0.out.size, z6 _ _ (HB0.out.trans (hBV.mono HB0.out.size)) (by omega)⟩
  clear C1 hb1 hl1 hn1 hbV hBV z3 z5 z6
  go_wp2_with fail
  exact bodyPost_ret (v := .tuple #[.agg #[.slice p1 qs.length c1], .int .i64 E]) (by simp [results, Try.results13, go_sem, z4]) rfl ⟨p1, c1, rfl, HF.out⟩
theorem cpyE_six {ps : List PK} {i : Int} (h : misE ps i = 6) : cpyE ps i = 6 ∧ cpyP ps i = [] := by
  have e : cpyE ps i = 6 := by unfold cpyE; rw [if_neg (by omega), h]
  exact ⟨e, by unfold cpyP; rw [e, if_neg (by omega)]; rfl⟩
theorem cpyE_other {ps : List PK} {i : Int} (h6 : misE ps i ≠ 6) (h0 : misE ps i ≠ 0) : cpyE ps i = misE ps i ∧ cpyP ps i = ps := by
  have e : cpyE ps i = misE ps i := by unfold cpyE; rw [if_neg (by omega)]
  exact ⟨e, by unfold cpyP; rw [e, if_neg h0]; exact besP_id ps h6⟩
theorem cpyE_full {ps : List PK} {i : Int} (h0 : misE ps i = 0) (hf : 4096 ≤ ps.length) : cpyE ps i = 8 ∧ cpyP ps i = ps := by
  have e : cpyE ps i = 8 := by unfold cpyE; rw [if_pos ⟨h0, hf⟩]
  exact ⟨e, by unfold cpyP; rw [e, if_neg (by omega)]; exact besP_id ps (by omega)⟩
theorem cpyE_ok {ps : List PK} {i : Int} (h0 : misE ps i = 0) (hf : ¬ 4096 ≤ ps.length) : cpyE ps i = 0 ∧ cpyP ps i = ps ++ [dlvK ps i] := by
  have e : cpyE ps i = 0 := by unfold cpyE; rw [if_neg (by omega), h0]
  exact ⟨e, by unfold cpyP; rw [e, if_pos rfl]⟩
theorem dlvK_small {ps : List PK} (h : SmallP ps) (i : Int) : (dlvK ps i).x.size ≤ 140737488355328 := by
  unfold dlvK
  split
  · cases e : ps[i.toNat]? with
    | none => exact Nat.zero_le _
    | some k => simpa using h k (List.mem_of_getElem? e)
  · exact Nat.zero_le _
theorem one_pack' (w : World) (f t : Int) (x : ByteArray) (hs : x.size ≤ 140737488355328) : PsL (w.alloc (.cells #[.int .i64 f, .int .i64 t, .string x] 30)) (.slice (some ⟨w.heap.size, 0, none⟩) 1 1) [⟨f, t, x⟩] := by
  refine ⟨_, 1, rfl, by simp, by omega, by simp, fun k hk => ?_, (fun h => by cases h), fun _ => ⟨_, 0, rfl, by simp, fun j hj => ?_⟩⟩
  · simp only [List.mem_singleton] at hk
    subst hk
    exact hs
  · match j, hj with
    | 0, _ => exact ⟨cell_box _ _ _ _ _ rfl, cell_box _ _ _ _ _ rfl, cell_box _ _ _ _ _ rfl⟩
set_option maxRecDepth 100000 in
set_option maxHeartbeats 4000000 in
theorem refCopy_any (v : Value) (i : Int) (ps : List PK) (w : World) (h : PsL w v ps) :
    Calls Try.prog 15 #[.agg #[v], .int .i64 i] w fun e w' => NetE (cpyP ps i) (cpyE ps i) w e w' := by
  obtain ⟨W0, hW0, hb0, hs0, hx⟩ := boxes2b w v
  have HX : Hid _ := hx
  have HB0 : Hid (Below w.heap.size w W0) := hb0
  have HS0 : Hid (W0.heap.size = w.heap.size + 2) := hs0
  have x0 := (hx W0 (Below.refl _ _)).1
  have C1 : Hid (Calls Try.prog 11 #[.agg #[v], .int .i64 i] W0 fun e w' => NetP (dlvP ps i) (dlvK ps i) (misE ps i) W0 e w') := refDeliver_any v i ps W0 (h.below hb0)
  have CO : Hid (∀ W, Below w.heap.size w W → Calls Try.prog 7 #[.agg #[v]] W fun e w' => NetO ps W e w') := fun W hb => refOwn_any v ps W (h.below hb)
  have hmany := h.many
  have HSM : Hid (SmallP ps) := h.small
  have hks := dlvK_small h.small i
  have hcases : (misE ps i = 6 ∧ cpyE ps i = 6 ∧ cpyP ps i = []) ∨ (misE ps i ≠ 6 ∧ misE ps i ≠ 0 ∧ cpyE ps i = misE ps i ∧ cpyP ps i = ps) ∨ (misE ps i = 0 ∧ (4096 : Int) ≤ (ps.length : Int) ∧ cpyE ps i = 8 ∧ cpyP ps i = ps) ∨ (misE ps i = 0 ∧ ¬ (4096 : Int) ≤ (ps.length : Int) ∧ cpyE ps i = 0 ∧ cpyP ps i = ps ++ [dlvK ps i]) := by
    by_cases h6 : misE ps i = 6
    · exact .inl ⟨h6, cpyE_six h6⟩
    · by_cases h0 : misE ps i = 0
      · by_cases hf : 4096 ≤ ps.length
        · exact .inr (.inr (.inl ⟨h0, by omega, cpyE_full h0 hf⟩))
        · exact .inr (.inr (.inr ⟨h0, by omega, cpyE_ok h0 hf⟩))
      · exact .inr (.inl ⟨h6, h0, cpyE_other h6 h0⟩)
  obtain ⟨ds, hds⟩ : ∃ ds, dlvP ps i = ds := ⟨_, rfl⟩
  obtain ⟨⟨kf, kt, kx⟩, hk⟩ : ∃ k, dlvK ps i = k := ⟨_, rfl⟩
  obtain ⟨E, hE⟩ : ∃ E, misE ps i = E := ⟨_, rfl⟩
  rw [hds, hk, hE] at C1
  rw [hk] at hks
  simp only at hks
  rw [hE, hk] at hcases
  obtain ⟨CE, hCE⟩ : ∃ e, cpyE ps i = e := ⟨_, rfl⟩
  obtain ⟨CP, hCP⟩ : ∃ e, cpyP ps i = e := ⟨_, rfl⟩
  rw [hCE, hCP] at hcases ⊢
  obtain ⟨p, c, rfl, _⟩ := h
  have HC : Hid _ := hcases
  clear hds hk hE hx hb0 hs0 hcases hCE hCP
  go_enter Try.func15, Try.ntmps15
  go_wp2_with fail
  refine C1.out.mono ?_
  rintro e w1 ⟨p1, c1, rfl, hl1, hn1, hb1⟩
  obtain ⟨V, hV⟩ : ∃ V, (w1.alloc (.cells #[.slice p1 ds.length c1] 24)).alloc (.cells #[.int .i64 kf, .int .i64 kt, .string kx] 30) = V := ⟨_, rfl⟩
  have hbV : Below w1.heap.size w1 V := by rw [← hV]; exact two_below _ _ _
  have gV : V.heap[w1.heap.size + 1]? = some (.cells #[.int .i64 kf, .int .i64 kt, .string kx] 30 (0, 0)) := by
    rw [← hV]
    have := heap_alloc_new (w1.alloc (.cells #[.slice p1 ds.length c1] 24)) (.cells #[.int .i64 kf, .int .i64 kt, .string kx] 30)
    simpa using this
  have hlV : w1.heap.size + 1 < V.heap.size := (Array.getElem?_eq_some_iff.1 gV).1
  have hBV : Below W0.heap.size W0 V := hb1.trans (hbV.mono hb1.size)
  have HBV : Hid (Below W0.heap.size W0 V) := hBV
  have HGV : Hid (V.heap[w1.heap.size + 1]? = some (.cells #[.int .i64 kf, .int .i64 kt, .string kx] 30 (0, 0))) := gV
  have HW1 : Hid (W0.heap.size ≤ w1.heap.size) := hb1.size
  obtain ⟨y0, y1, y2⟩ := HX.out V hBV
  clear C1 hb1 hl1 hn1 hbV gV x0
  rcases HC.out with ⟨e1, e2, e3⟩ | hrest
  · subst e1 e2 e3
    obtain ⟨Wz, hWz, z1, z2, z3, z4, z5, _, _, z6⟩ := set_box y2 (PsL.nil V)
    have HF : Hid (PsL Wz (.slice none 0 0) [] ∧ NewP w.heap.size none ∧ Below w.heap.size w Wz) := ⟨z5, NewP.none _, z6 _ _ (HB0.out.trans (HBV.out.mono HB0.out.size)) (by omega)⟩
    clear z3 z5 z6 y1 y2 hBV CO HC
    go_wp2_with fail
    exact bodyPost_ret (v := .tuple #[.agg #[.slice none 0 0], .int .i64 6]) (by simp [results, Try.results15, go_sem, z4]) rfl ⟨none, 0, rfl, HF.out⟩
  · have CO1 := CO.out V (HB0.out.trans (HBV.out.mono HB0.out.size))
    have step : ∀ w2 : World, ∀ p2 c2, NetO ps V (.returned (.agg #[.slice p2 ps.length c2])) w2 → ∃ Wn, w2.setCell ⟨w.heap.size, 0, none⟩ (.slice p2 ps.length c2) = Wn ∧ w2.cell? ⟨w.heap.size, 0, none⟩ = some (.slice p ps.length c) ∧ w2.frozen? ⟨w.heap.size, 0, none⟩ = false ∧ Hid (TwoB w p2 c2 ps Wn) ∧ Hid (BoxK (w1.heap.size + 1) ⟨kf, kt, kx⟩ Wn) := by
      rintro w2 p2 c2 ⟨p', c', e', ho2, hb2⟩
      simp only [Ending.returned.injEq, Value.agg.injEq, Array.mk.injEq, List.cons.injEq, Value.slice.injEq, true_and, and_true] at e'
      obtain ⟨rfl, rfl⟩ := e'
      have hB2 : Below W0.heap.size W0 w2 := HBV.out.trans (hb2.mono HBV.out.size)
      obtain ⟨_, a1, a2⟩ := HX.out w2 hB2
      have hsz := HBV.out.size
      have h0 := HS0.out
      obtain ⟨Wz, hWz, z1, z2, z3, z4, z5, zo, zs, z6⟩ := set_box a1 (ho2.packs hmany HSM.out)
      refine ⟨Wz, hWz, z1, z2, ⟨z4, z3, by rw [zo _ (by omega)]; exact a2, (ho2.mono (by omega)).but (g := w.heap.size) (by omega) zo, z6 _ _ (HB0.out.trans (hB2.mono HB0.out.size)) (Nat.le_refl _)⟩, ?_⟩
      show Wz.heap[w1.heap.size + 1]? = _
      have := HW1.out
      rw [zo _ (by omega), hb2.block _ hlV]; exact HGV.out
    have HST : Hid _ := step
    clear step CO y1 y2 hBV HC
    rcases hrest with ⟨e1, e2, e3, e4⟩ | ⟨e1, e2, e3, e4⟩ | ⟨e1, e2, e3, e4⟩
    · have e4' := e4.symm
      have e3' := e3.symm
      subst e3' e4'
      have n6 : (E == 6) = false := beq_eq_false_iff_ne.2 e1
      have n0 : (E == 0) = false := beq_eq_false_iff_ne.2 e2
      clear e1 e2
      go_wp2_with fail
      refine CO1.mono ?_
      intro e w2 hno
      obtain ⟨p2, c2, rfl, hno2⟩ := hno
      obtain ⟨Wn, hWn, n1, n2, HT, HK⟩ := HST.out w2 p2 c2 ⟨p2, c2, rfl, hno2⟩
      obtain ⟨Wz, hWz, z1, z2, z4, HF⟩ := HT.out.ret hmany HSM.out
      have v0 := HT.out.1
      clear CO1 hno2 HT HST HK
      go_wp2_with fail
      exact bodyPost_ret (v := .tuple #[.agg #[.slice p2 ps.length c2], .int .i64 E]) (by simp [results, Try.results15, go_sem, z4]) rfl ⟨p2, c2, rfl, HF.out⟩
    · have e4' := e4.symm
      subst e1 e3 e4'
      go_wp2_with fail
      refine CO1.mono ?_
      intro e w2 hno
      obtain ⟨p2, c2, rfl, hno2⟩ := hno
      obtain ⟨Wn, hWn, n1, n2, HT, HK⟩ := HST.out w2 p2 c2 ⟨p2, c2, rfl, hno2⟩
      obtain ⟨Wz, hWz, z1, z2, z4, HF⟩ := HT.out.ret hmany HSM.out
      have v0 := HT.out.1
      clear CO1 hno2 HT HST HK
      go_wp2_with fail
      exact bodyPost_ret (v := .tuple #[.agg #[.slice p2 ps.length c2], .int .i64 8]) (by simp [results, Try.results15, go_sem, z4]) rfl ⟨p2, c2, rfl, HF.out⟩
    · subst e1 e3
      obtain ⟨qs, hq⟩ : ∃ qs, qs = CP := ⟨_, rfl⟩
      subst hq
      have HQ : Hid (ps ++ [(⟨kf, kt, kx⟩ : PK)] = qs) := e4.symm
      clear e4
      go_wp2_with fail
      refine CO1.mono ?_
      intro e w2 hno
      obtain ⟨p2, c2, rfl, hno2⟩ := hno
      obtain ⟨Wn, hWn, n1, n2, HT, HK⟩ := HST.out w2 p2 c2 ⟨p2, c2, rfl, hno2⟩
      obtain ⟨U, hU⟩ : ∃ U, Wn.alloc (.cells #[.int .i64 kf, .int .i64 kt, .string kx] 30) = U := ⟨_, rfl⟩
      have hbU : Below Wn.heap.size Wn U := by rw [← hU]; exact one_below _ _
      have hTU := HT.out.below hbU
      have hone : PsL U (.slice (some ⟨Wn.heap.size, 0, none⟩) 1 1) [⟨kf, kt, kx⟩] := by rw [← hU]; exact one_pack' Wn kf kt kx hks
      have hsU : w.heap.size + 2 ≤ U.heap.size := by have := (Array.getElem?_eq_some_iff.1 hTU.2.2.1).1; omega
      obtain ⟨v', W', e, ho', hup, hlow, hsz⟩ := append_run hTU.2.2.2.1 hsU hone (by simp; omega) 22
      have hql : qs.length * 32 ≤ 140737488355328 := by rw [← HQ.out]; simp; omega
      have hqs : SmallP qs := by
        rw [← HQ.out]
        intro k hk
        rcases List.mem_append.1 hk with hk | hk
        · exact HSM.out k hk
        · simp only [List.mem_singleton] at hk
          subst hk
          exact hks
      rw [HQ.out] at ho'
      obtain ⟨p5, c5, rfl, _⟩ := ho'.shape
      obtain ⟨Wn5, hWn5, m1, m2, HT5⟩ := TwoB.new (W0 := W0) (W1 := w1) (w := w) (by rw [hlow _ (by omega)]; exact hTU.2.1) (by rw [hlow _ (by omega)]; exact hTU.2.2.1) ho' (hup _ _ hTU.2.2.2.2 (by omega)) hql hqs
      obtain ⟨Wz, hWz, z1, z2, z4, HF⟩ := HT5.out.ret hql hqs
      have v0 := HT.out.1
      have vU := hTU.1
      have v5 := HT5.out.1
      obtain ⟨k0, k1, k2⟩ := HK.out.cells
      simp only at k0 k1 k2
      clear CO1 hno2 HST hbU hTU hone hsU ho' hup hlow hsz hql hqs HT5 HT HK
      go_wp2_with (at_builtin; refine Lib.wpList_append_run _ rfl _ _ _ _ rfl _ _ rfl rfl _ _ e ?_)
      exact bodyPost_ret (v := .tuple #[.agg #[.slice p5 qs.length c5], .int .i64 0]) (by simp [results, Try.results15, go_sem, z4]) rfl ⟨p5, c5, rfl, HF.out⟩
end Go.Proofs.Ytnfgfbmkeiimlaa
