/- What lives answers: the walk. -/
import Derived.Test.YtcmiphgeakdonaaAy
namespace Go.Proofs.Ytcmiphgeakdonaa
open Go.Shelf Go.RowKit Go.Lib Go.Sort
set_option linter.unusedVariables false
set_option linter.unusedSimpArgs false
attribute [local go_sem ↓] Go.wp_at_zero Go.wp_at_succ
set_option maxRecDepth 100000 in
set_option maxHeartbeats 4000000 in
theorem lives_any (w : World) : Calls Try.prog 10 #[] w fun e w' => e = .returned (.bool true) ∧ Below w.heap.size w w' := by
  obtain ⟨wm, hms, hbm, hsm, hcm⟩ := make_lives w
  have C8 := hid (cut_lives w wm hbm hsm hcm)
  have HSM : Hid (w.heap.size < wm.heap.size) := hsm
  clear hbm hsm hcm
  go_enter Try.func10, Try.ntmps10
  go_wp2_with fail
  refine C8.out.mono ?_
  rintro e w1 ⟨q, c, rfl, hr1, hb1⟩
  obtain ⟨WA, hWA, hth, WS, hWS, hrs, hss, hbs, hrl⟩ := box_new w1 29 #[.int .u64 0, .int .u64 0, .int .i64 0, .int .i64 0, .int .i64 0, .slice none 0 0, .int .u64 0] [.int .u64 0, .int .u64 0, .int .i64 0, .int .i64 1, .int .i64 0, .slice q 2 c, .int .u64 0] rfl
  have C9 := hid (send_lives q c (From wm.heap.size w1) WS (mOut _ _ _ _ _ _ (fun _ h => h) (kept_of From.lt hbs) hr1) (fun b hb => Nat.lt_of_lt_of_le hb.2 hbs.size))
  have HTH : Hid (WA.there w1.heap.size 0 7) := hth
  have HWS : Hid (WA.setCells w1.heap.size 0 (#[.int .u64 0, .int .u64 0, .int .i64 0, .int .i64 1, .int .i64 0, .slice q 2 c, .int .u64 0] : Array Value).toList = WS) := hWS
  have HRS : Hid (WS.rangeAt w1.heap.size 0 [.int .u64 0, .int .u64 0, .int .i64 0, .int .i64 1, .int .i64 0, .slice q 2 c, .int .u64 0]) := hrs
  have HON : Hid ((#[.int .u64 0, .int .u64 0, .int .i64 0, .int .i64 1, .int .i64 0, .slice q 2 c, .int .u64 0] : Array Value).all (·.oneCell') = true) := by show _ = _; simp [Value.oneCell']
  have HBS : Hid (Below w.heap.size w WS) := hb1.trans (hbs.mono hb1.size)
  clear C8 hr1 hb1 hth hWS hrs hss hbs hrl
  go_wp2_with (first | (refine wpList_store_mid rfl 29 _ _ rfl w1.heap.size 0 #[.int .u64 0, .int .u64 0, .int .i64 0, .int .i64 1, .int .i64 0, .slice q 2 c, .int .u64 0] rfl rfl HTH.out sz_Out HON.out ?_; rw [HWS.out]) | (refine wpList_load_mid rfl 29 _ rfl w1.heap.size 0 rfl _ _ HRS.out Try.underlying29 rfl sz_Out ?_))
  refine C9.out.mono ?_
  rintro e w3 ⟨g, o, c2, cl0, cl1, rfl, hg, hr0, hr1, hl0, hl1, hm0, hm1, hb3⟩
  obtain ⟨qm, cm, e1, _⟩ := mg_cells hm1
  have k38 : w3.cell? ⟨g, o + 47 + 38, none⟩ = some (.bool true) := hr1 38 _ (by rw [e1]; rfl)
  have k39 : w3.cell? ⟨g, o + 47 + 39, none⟩ = some (.slice qm 1 cm) := hr1 39 _ (by rw [e1]; rfl)
  have k38b : w3.cell? ⟨g, o + 85, none⟩ = some (.bool true) := k38
  have k39b : w3.cell? ⟨g, o + 86, none⟩ = some (.slice qm 1 cm) := k39
  have CT0 := hid (take_l0 cl1 (From WS.heap.size w3) w3 hm1 From.lt)
  have HR0 : Hid (w3.rangeAt g o cl0) := hr0
  have HR1 : Hid (w3.rangeAt g (o + 47) cl1) := hr1
  have SZ0 : Hid ((Try.prog.info? 62).map (·.size) = some cl0.length) := by show _ = _; rw [hl0]; exact sz_Msg
  have SZ1 : Hid ((Try.prog.info? 62).map (·.size) = some cl1.length) := by show _ = _; rw [hl1]; exact sz_Msg
  have HM0 : Hid (rMg (From WS.heap.size w3) w3 cl0 mL0) := hm0
  have HG : Hid (g < w3.heap.size) := hg.1
  have HB3 : Hid (Below w.heap.size w w3) := HBS.out.trans (hb3.mono HBS.out.size)
  have HSS : Hid (WS.heap.size ≤ w3.heap.size) := hb3.size
  clear C9 HTH HWS HRS HON HBS hWA hr0 hr1 hl0 hl1 hm0 hm1 hb3 e1 hg
  go_wp2_with (refine wpList_load_mid rfl 62 _ rfl g (o + 47) rfl _ _ HR1.out Try.underlying62 rfl SZ1.out ?_)
  refine CT0.out.mono ?_
  rintro e w4 ⟨q4, c4, q5, c5, rfl, hr4, hb4⟩
  obtain ⟨WA, hWA, hth, WT, hWT, hrs, hss, hbs, hrl⟩ := box_new w4 68 #[.int .u64 0, .int .u64 0, .int .i64 0, .int .i64 0, .int .i64 0, .int .u64 0, .slice none 0 0, .slice none 0 0, .bool false] [.int .u64 0, .int .u64 0, .int .i64 0, .int .i64 1, .int .i64 0, .int .u64 0, .slice q4 1 c4, .slice q5 0 c5, .bool false] rfl
  obtain ⟨W5, hW5⟩ : ∃ W5, WT.drew = W5 := ⟨_, rfl⟩
  have hb5 : Below w4.heap.size w4 W5 := by rw [← hW5]; exact hbs.drew
  have hb35 : Below w3.heap.size w3 W5 := hb4.trans (hb5.mono hb4.size)
  have hgT : WT.heap[w4.heap.size]? = some (.cells #[.int .u64 0, .int .u64 0, .int .i64 0, .int .i64 1, .int .i64 0, .int .u64 0, .slice q4 1 c4, .slice q5 0 c5, .bool false] 68 (0, 0)) := by
    rw [← hWT]
    exact box_full WA w4.heap.size #[.int .u64 0, .int .u64 0, .int .i64 0, .int .i64 0, .int .i64 0, .int .u64 0, .slice none 0 0, .slice none 0 0, .bool false] 68 (by rw [← hWA]; exact heap_alloc_new w4 _) [.int .u64 0, .int .u64 0, .int .i64 0, .int .i64 1, .int .i64 0, .int .u64 0, .slice q4 1 c4, .slice q5 0 c5, .bool false] rfl
  have hm05 : rMg (From WS.heap.size w3) W5 cl0 mL0 := mMg _ _ _ _ _ _ (fun _ h => h) (kept_of From.lt hb35) HM0.out
  have hr45 : rIn (From w3.heap.size w4) W5 [.int .u64 0, .int .u64 0, .int .i64 0, .int .i64 1, .int .i64 0, .int .u64 0, .slice q4 1 c4, .slice q5 0 c5, .bool false] iL1 := mIn _ _ _ _ _ _ (fun _ h => h) (kept_of From.lt hb5) hr4
  have s45 := hb5.size
  have s34 := hb4.size
  have CT1 := hid (take_l1 cl0 [.int .u64 0, .int .u64 0, .int .i64 0, .int .i64 1, .int .i64 0, .int .u64 0, .slice q4 1 c4, .slice q5 0 c5, .bool false] (fun b => b < W5.heap.size) W5 (mIn _ _ _ _ _ _ (fun b hb => Nat.lt_of_lt_of_le hb.2 s45) (Kept.refl _ _) hr45) (mMg _ _ _ _ _ _ (fun b hb => by have := hb.2; show b < _; omega) (Kept.refl _ _) hm05) (fun b hb => hb))
  have HTH : Hid (WA.there w4.heap.size 0 9) := hth
  have HWT : Hid (WA.setCells w4.heap.size 0 (#[.int .u64 0, .int .u64 0, .int .i64 0, .int .i64 1, .int .i64 0, .int .u64 0, .slice q4 1 c4, .slice q5 0 c5, .bool false] : Array Value).toList = WT) := hWT
  have HON : Hid ((#[.int .u64 0, .int .u64 0, .int .i64 0, .int .i64 1, .int .i64 0, .int .u64 0, .slice q4 1 c4, .slice q5 0 c5, .bool false] : Array Value).all (·.oneCell') = true) := by show _ = _; simp [Value.oneCell']
  have HM5 : Hid (rMg (From WS.heap.size w3) W5 cl0 mL0) := hm05
  have HB5 : Hid (Below w.heap.size w W5) := HB3.out.trans (hb35.mono HB3.out.size)
  have HRT : Hid (W5.rangeAt w4.heap.size 0 [.int .u64 0, .int .u64 0, .int .i64 0, .int .i64 1, .int .i64 0, .int .u64 0, .slice q4 1 c4, .slice q5 0 c5, .bool false]) := fun j u hu => by rw [← hW5]; exact hrs j u hu
  have HGT : Hid (W5.heap[w4.heap.size]? = some (.cells #[.int .u64 0, .int .u64 0, .int .i64 0, .int .i64 1, .int .i64 0, .int .u64 0, .slice q4 1 c4, .slice q5 0 c5, .bool false] 68 (0, 0)) ∧ w4.heap.size < W5.heap.size ∧ g < W5.heap.size ∧ w3.heap.size ≤ w4.heap.size) := ⟨by rw [← hW5]; exact hgT, by rw [← hW5]; exact (Array.getElem?_eq_some_iff.1 hgT).1, by have := HG.out; omega, s34⟩
  have HSc : Hid (∀ V : World, V.heap[g]? = W5.heap[g]? → V.rangeAt g o cl0) := fun V hV j u hu => (World.cell?_of_block (a := ⟨g, o + j, none⟩) hV).trans ((hb35.cell (p := ⟨g, o + j, none⟩) HG.out).trans (HR0.out j u hu))
  have HNE : Hid (g ≠ w4.heap.size) := by have := HG.out; show _ ≠ _; omega
  have HW4 : Hid (w.heap.size ≤ w4.heap.size) := by have := HB3.out.size; show _ ≤ _; omega
  clear CT0 hth hWT hrs hss hbs hrl hb4 hr4 hb5 hb35 hgT hm05 hr45 s45 s34 HR1 SZ1 HM0 HB3 k38 k39 k38b k39b HG
  go_wp2_with (refine wpList_store_mid rfl 68 _ _ rfl w4.heap.size 0 #[.int .u64 0, .int .u64 0, .int .i64 0, .int .i64 1, .int .i64 0, .int .u64 0, .slice q4 1 c4, .slice q5 0 c5, .bool false] rfl rfl HTH.out sz_In HON.out ?_; rw [HWT.out])
  refine wp_region_held_drew (S := fun V => V.rangeAt g o cl0) (by kernel_rfl) (by rw [hW5]; exact HSc.out W5 rfl) (fun hHeld => ?_)
  refine wpAnyH_take (i := 1) (v := .slice (some ⟨g, o, none⟩) 2 c2) rfl (by kernel_rfl) (by kernel_rfl) (by kernel_rfl) (fun _ _ _ h => h) (.inl ⟨by rfl, fun W hW => by go_simp⟩) hHeld ?_
  simp only [Act.put, List.getElem_toArray, List.getElem_cons_zero, List.getElem_cons_succ, List.setIfInBounds_toArray, List.set_cons_zero, List.set_cons_succ]
  refine wpAnyH_take (i := 2) (v := .pointer (some ⟨g, o, none⟩)) rfl (by kernel_rfl) (by kernel_rfl) (by kernel_rfl) (fun _ _ _ h => h) (.inl ⟨by rfl, fun W hW => by go_simp⟩) hHeld ?_
  simp only [Act.put, List.getElem_toArray, List.getElem_cons_zero, List.getElem_cons_succ, List.setIfInBounds_toArray, List.set_cons_zero, List.set_cons_succ]
  refine wpAnyH_take (i := 3) (v := .agg cl0.toArray) rfl (by kernel_rfl) (by kernel_rfl) (by kernel_rfl) (fun _ _ _ h => h) (yieldsIf_load_mid (by rfl) 62 (.tmp 61) rfl g o rfl cl0 _ (fun W hW => hW) Try.underlying62 rfl SZ0.out) hHeld ?_
  simp only [Act.put, List.getElem_toArray, List.getElem_cons_zero, List.getElem_cons_succ, List.setIfInBounds_toArray, List.set_cons_zero, List.set_cons_succ]
  rw [hW5] at hHeld ⊢
  clear hW5 HTH HWT
  refine wpAnyH_ready (rs := [0]) (by kernel_rfl) (by simp) ?_
  refine AllReadyH.cons rfl (fun K' hK => ?_) AllReadyH.nil
  rw [if_pos (by rfl)]
  refine wp_load_mid 68 (.tmp 6) rfl w4.heap.size 0 rfl _ _ HRT.out Try.underlying68 rfl sz_In ?_
  simp only [Act.put, List.getElem_toArray, List.getElem_cons_zero, List.getElem_cons_succ, List.setIfInBounds_toArray, List.set_cons_zero, List.set_cons_succ]
  refine hK.out _ _ hHeld (fun hHeld => ?_)
  clear hK K'
  refine wpAnyH_ready (rs := [4]) (by kernel_rfl) (by simp) ?_
  refine AllReadyH.cons rfl (fun K' hK => ?_) AllReadyH.nil
  rw [if_pos (by rfl)]
  go_simp
  go_at_call 18
  refine CT1.out.mono ?_
  rintro e w6 ⟨q6, c6, q7, c7, rfl, hr6, hb6⟩
  have hS6 : w6.rangeAt g o cl0 := HSc.out w6 (hb6.block g HGT.out.2.2.1)
  have hgT6 : w6.heap[w4.heap.size]? = some (.cells #[.int .u64 0, .int .u64 0, .int .i64 0, .int .i64 1, .int .i64 0, .int .u64 0, .slice q4 1 c4, .slice q5 0 c5, .bool false] 68 (0, 0)) := (hb6.block _ HGT.out.2.1).trans HGT.out.1
  obtain ⟨hth6, X6, hX6, _, hsX6, hkX6⟩ := put_row w6 w4.heap.size _ 68 hgT6 [.int .u64 0, .int .u64 0, .int .i64 0, .int .i64 1, .int .i64 0, .int .u64 2, .slice q6 0 c6, .slice q7 9 c7, .bool true] rfl Try.underlying68 rfl sz_In
  have hgX6 : X6.heap[w4.heap.size]? = some (.cells #[.int .u64 0, .int .u64 0, .int .i64 0, .int .i64 1, .int .i64 0, .int .u64 2, .slice q6 0 c6, .slice q7 9 c7, .bool true] 68 (0, 0)) := by rw [← hX6]; exact box_full w6 w4.heap.size _ 68 hgT6 [.int .u64 0, .int .u64 0, .int .i64 0, .int .i64 1, .int .i64 0, .int .u64 2, .slice q6 0 c6, .slice q7 9 c7, .bool true] rfl
  have s6 := hb6.size
  obtain ⟨y1, y2, y3, y4⟩ := HGT.out
  have hgne : g ≠ w4.heap.size := HNE.out
  have hSX6 : X6.rangeAt g o cl0 := HSc.out X6 ((hkX6.block g hgne).trans (hb6.block g y3))
  have hk56 : Kept (fun b => b < W5.heap.size ∧ b ≠ w4.heap.size) W5 X6 := (kept_of (fun b hb => hb.1) hb6).trans (hkX6.less fun b hb => hb.2)
  have hm6 : rMg (From WS.heap.size w3) X6 cl0 mL0 := mMg _ _ _ _ _ _ (fun _ h => h) (hk56.less fun b hb => ⟨by have := hb.2; omega, by have := hb.2; omega⟩) HM5.out
  have hr6x : rIn (From W5.heap.size w6) X6 [.int .u64 0, .int .u64 0, .int .i64 0, .int .i64 1, .int .i64 0, .int .u64 2, .slice q6 0 c6, .slice q7 9 c7, .bool true] iL2 := mIn _ _ _ _ _ _ (fun _ h => h) (hkX6.less fun b hb => by have := hb.1; show b ≠ _; omega) hr6
  have hB6 : Below w.heap.size w X6 := ⟨hk56.os.trans HB5.out.os, hk56.tape.trans HB5.out.tape, hk56.output.trans HB5.out.output, by have := HB5.out.size; omega, fun b hb => (hk56.block b ⟨by have := HB5.out.size; omega, by have := HW4.out; omega⟩).trans (HB5.out.block b hb)⟩
  have HM6 : Hid (rMg (fun b => b < X6.heap.size) X6 cl0 mL0) := mMg _ _ _ _ _ _ (fun b hb => by have := hb.2; show b < _; omega) (Kept.refl _ _) hm6
  have HI6 : Hid (rIn (fun b => b < X6.heap.size) X6 [.int .u64 0, .int .u64 0, .int .i64 0, .int .i64 1, .int .i64 0, .int .u64 2, .slice q6 0 c6, .slice q7 9 c7, .bool true] iL2) := mIn _ _ _ _ _ _ (fun b hb => by have := hb.2; show b < _; omega) (Kept.refl _ _) hr6x
  have HB6 : Hid (Below w.heap.size w X6) := hB6
  have HX6 : Hid (w6.setCells w4.heap.size 0 (#[.int .u64 0, .int .u64 0, .int .i64 0, .int .i64 1, .int .i64 0, .int .u64 2, .slice q6 0 c6, .slice q7 9 c7, .bool true] : Array Value).toList = X6) := hX6
  have HT6 : Hid (w6.there w4.heap.size 0 9) := hth6
  have HO6 : Hid ((#[.int .u64 0, .int .u64 0, .int .i64 0, .int .i64 1, .int .i64 0, .int .u64 2, .slice q6 0 c6, .slice q7 9 c7, .bool true] : Array Value).all (·.oneCell') = true) := by show _ = _; simp [Value.oneCell']
  have HG6 : Hid (X6.heap[w4.heap.size]? = some (.cells #[.int .u64 0, .int .u64 0, .int .i64 0, .int .i64 1, .int .i64 0, .int .u64 2, .slice q6 0 c6, .slice q7 9 c7, .bool true] 68 (0, 0)) ∧ g < X6.heap.size ∧ w4.heap.size < X6.heap.size) := ⟨hgX6, by omega, by omega⟩
  have HS6 : Hid (X6.rangeAt g o cl0) := hSX6
  clear CT1 hr6 hb6 hgT6 hth6 hX6 hsX6 hkX6 hgX6 s6 y1 y2 y3 y4 hgne hk56 hm6 hr6x hB6 HM5 HB5 HRT HGT HSc
  refine hK.out _ _ hS6 (fun hHeld => ?_)
  clear hK K' hS6
  refine wpAnyH_take (i := 5) (v := .tuple #[.agg #[.int .u64 0, .int .u64 0, .int .i64 0, .int .i64 1, .int .i64 0, .int .u64 2, .slice q6 0 c6, .slice q7 9 c7, .bool true], .int .i64 0]) rfl (by kernel_rfl) (by kernel_rfl) (by kernel_rfl) (fun _ _ _ h => h) (.inl ⟨by rfl, fun W hW => by go_simp⟩) hHeld ?_
  simp only [Act.put, List.getElem_toArray, List.getElem_cons_zero, List.getElem_cons_succ, List.setIfInBounds_toArray, List.set_cons_zero, List.set_cons_succ]
  refine wpAnyH_take (i := 6) (v := .agg #[.int .u64 0, .int .u64 0, .int .i64 0, .int .i64 1, .int .i64 0, .int .u64 2, .slice q6 0 c6, .slice q7 9 c7, .bool true]) rfl (by kernel_rfl) (by kernel_rfl) (by kernel_rfl) (fun _ _ _ h => h) (.inl ⟨by rfl, fun W hW => by go_simp⟩) hHeld ?_
  simp only [Act.put, List.getElem_toArray, List.getElem_cons_zero, List.getElem_cons_succ, List.setIfInBounds_toArray, List.set_cons_zero, List.set_cons_succ]
  refine wpAnyH_take (i := 7) (v := .int .i64 0) rfl (by kernel_rfl) (by kernel_rfl) (by kernel_rfl) (fun _ _ _ h => h) (.inl ⟨by rfl, fun W hW => by go_simp⟩) hHeld ?_
  simp only [Act.put, List.getElem_toArray, List.getElem_cons_zero, List.getElem_cons_succ, List.setIfInBounds_toArray, List.set_cons_zero, List.set_cons_succ]
  refine wpAnyH_ready (rs := [8]) (by kernel_rfl) (by simp) ?_
  refine AllReadyH.cons rfl (fun K' hK => ?_) AllReadyH.nil
  rw [if_pos (by rfl)]
  refine wp_store_mid 68 (.tmp 6) (.tmp 64) rfl w4.heap.size 0 #[.int .u64 0, .int .u64 0, .int .i64 0, .int .i64 1, .int .i64 0, .int .u64 2, .slice q6 0 c6, .slice q7 9 c7, .bool true] rfl rfl HT6.out sz_In HO6.out ?_
  rw [HX6.out]
  refine hK.out _ _ hSX6 (fun hHeld => ?_)
  clear hK K'
  refine wpAnyH_ready (rs := [9]) (by kernel_rfl) (by simp) ?_
  refine AllReadyH.cons rfl (fun K' hK => ?_) AllReadyH.nil
  rw [if_pos (by rfl)]
  go_simp
  refine hK.out _ _ hSX6 (fun hHeld => ?_)
  clear hK K'
  refine wpAnyH_done (by kernel_rfl) ?_ _
  clear hHeld hSX6 HT6 HX6 HO6
  obtain ⟨W7, hW7⟩ : ∃ W7, X6.drew = W7 := ⟨_, rfl⟩
  have hk7 : Below X6.heap.size X6 W7 := by rw [← hW7]; exact (Below.refl _ _).drew
  have hS7 : ∀ V : World, V.heap[g]? = X6.heap[g]? → V.heap[w4.heap.size]? = X6.heap[w4.heap.size]? → (V.rangeAt g o cl0 ∧ V.rangeAt w4.heap.size 0 [.int .u64 0, .int .u64 0, .int .i64 0, .int .i64 1, .int .i64 0, .int .u64 2, .slice q6 0 c6, .slice q7 9 c7, .bool true]) := fun V h1 h2 => ⟨fun j u hu => (World.cell?_of_block (a := ⟨g, o + j, none⟩) h1).trans (HS6.out j u hu), fun j u hu => by rw [Nat.zero_add]; exact cell_of_row (h2.trans HG6.out.1) (by simpa using hu)⟩
  have CT2 : Hid (∀ V, Below X6.heap.size X6 V → Calls Try.prog 18 #[.agg #[.int .u64 0, .int .u64 0, .int .i64 0, .int .i64 1, .int .i64 0, .int .u64 2, .slice q6 0 c6, .slice q7 9 c7, .bool true], .agg cl0.toArray] V fun e w' => ∃ q8 c8 q9 c9, e = .returned (.tuple #[.agg #[.int .u64 0, .int .u64 0, .int .i64 0, .int .i64 1, .int .i64 0, .int .u64 2, .slice q8 0 c8, .slice q9 9 c9, .bool true], .int .i64 15]) ∧ Below V.heap.size V w') := fun V hV =>
    take_l2 cl0 [.int .u64 0, .int .u64 0, .int .i64 0, .int .i64 1, .int .i64 0, .int .u64 2, .slice q6 0 c6, .slice q7 9 c7, .bool true] (fun b => b < X6.heap.size) V (mIn _ _ _ _ _ _ (fun _ h => h) (kept_of (fun b hb => hb) hV) HI6.out) (mMg _ _ _ _ _ _ (fun _ h => h) (kept_of (fun b hb => hb) hV) HM6.out) (fun b hb => Nat.lt_of_lt_of_le hb hV.size)
  have HS7 := hid hS7
  have HK7 : Hid (Below X6.heap.size X6 W7) := hk7
  clear hS7 hk7
  go_wp2_with fail
  refine wp_region_held_drew (S := fun V => V.rangeAt g o cl0 ∧ V.rangeAt w4.heap.size 0 [.int .u64 0, .int .u64 0, .int .i64 0, .int .i64 1, .int .i64 0, .int .u64 2, .slice q6 0 c6, .slice q7 9 c7, .bool true]) (by kernel_rfl) (by rw [hW7]; exact HS7.out W7 (HK7.out.block _ HG6.out.2.1) (HK7.out.block _ HG6.out.2.2)) (fun hHeld => ?_)
  refine wpAnyH_take (i := 0) (v := .agg #[.int .u64 0, .int .u64 0, .int .i64 0, .int .i64 1, .int .i64 0, .int .u64 2, .slice q6 0 c6, .slice q7 9 c7, .bool true]) rfl (by kernel_rfl) (by kernel_rfl) (by kernel_rfl) (fun _ _ _ h => h) (yieldsIf_load_mid (by rfl) 68 (.tmp 6) rfl w4.heap.size 0 rfl [.int .u64 0, .int .u64 0, .int .i64 0, .int .i64 1, .int .i64 0, .int .u64 2, .slice q6 0 c6, .slice q7 9 c7, .bool true] _ (fun W hW => hW.2) Try.underlying68 rfl sz_In) hHeld ?_
  simp only [Act.put, List.getElem_toArray, List.getElem_cons_zero, List.getElem_cons_succ, List.setIfInBounds_toArray, List.set_cons_zero, List.set_cons_succ]
  refine wpAnyH_take (i := 1) (v := .slice (some ⟨g, o, none⟩) 2 c2) rfl (by kernel_rfl) (by kernel_rfl) (by kernel_rfl) (fun _ _ _ h => h) (.inl ⟨by rfl, fun W hW => by go_simp⟩) hHeld ?_
  simp only [Act.put, List.getElem_toArray, List.getElem_cons_zero, List.getElem_cons_succ, List.setIfInBounds_toArray, List.set_cons_zero, List.set_cons_succ]
  refine wpAnyH_take (i := 2) (v := .pointer (some ⟨g, o, none⟩)) rfl (by kernel_rfl) (by kernel_rfl) (by kernel_rfl) (fun _ _ _ h => h) (.inl ⟨by rfl, fun W hW => by go_simp⟩) hHeld ?_
  simp only [Act.put, List.getElem_toArray, List.getElem_cons_zero, List.getElem_cons_succ, List.setIfInBounds_toArray, List.set_cons_zero, List.set_cons_succ]
  refine wpAnyH_take (i := 3) (v := .agg cl0.toArray) rfl (by kernel_rfl) (by kernel_rfl) (by kernel_rfl) (fun _ _ _ h => h) (yieldsIf_load_mid (by rfl) 62 (.tmp 69) rfl g o rfl cl0 _ (fun W hW => hW.1) Try.underlying62 rfl SZ0.out) hHeld ?_
  simp only [Act.put, List.getElem_toArray, List.getElem_cons_zero, List.getElem_cons_succ, List.setIfInBounds_toArray, List.set_cons_zero, List.set_cons_succ]
  rw [hW7] at hHeld ⊢
  clear hW7
  refine wpAnyH_ready (rs := [4, 8]) (by kernel_rfl) (by simp) ?_
  refine AllReadyH.cons rfl (fun K' hK => ?_) ?_
  · rw [if_pos (by rfl)]
    go_simp
    go_at_call 18
    refine (CT2.out W7 HK7.out).mono ?_
    rintro e w8 ⟨q8, c8, q9, c9, rfl, hb8⟩
    have hB8 : Below X6.heap.size X6 w8 := HK7.out.trans (hb8.mono HK7.out.size)
    refine hK.out _ _ (HS7.out w8 (hB8.block _ HG6.out.2.1) (hB8.block _ HG6.out.2.2)) (fun hHeld => ?_)
    clear hK K' hb8
    refine wpAnyH_take (i := 5) (v := .tuple #[.agg #[.int .u64 0, .int .u64 0, .int .i64 0, .int .i64 1, .int .i64 0, .int .u64 2, .slice q8 0 c8, .slice q9 9 c9, .bool true], .int .i64 15]) rfl (by kernel_rfl) (by kernel_rfl) (by kernel_rfl) (fun _ _ _ h => h) (.inl ⟨by rfl, fun W hW => by go_simp⟩) hHeld ?_
    simp only [Act.put, List.getElem_toArray, List.getElem_cons_zero, List.getElem_cons_succ, List.setIfInBounds_toArray, List.set_cons_zero, List.set_cons_succ]
    refine wpAnyH_take (i := 6) (v := .agg #[.int .u64 0, .int .u64 0, .int .i64 0, .int .i64 1, .int .i64 0, .int .u64 2, .slice q8 0 c8, .slice q9 9 c9, .bool true]) rfl (by kernel_rfl) (by kernel_rfl) (by kernel_rfl) (fun _ _ _ h => h) (.inl ⟨by rfl, fun W hW => by go_simp⟩) hHeld ?_
    simp only [Act.put, List.getElem_toArray, List.getElem_cons_zero, List.getElem_cons_succ, List.setIfInBounds_toArray, List.set_cons_zero, List.set_cons_succ]
    refine wpAnyH_take (i := 7) (v := .int .i64 15) rfl (by kernel_rfl) (by kernel_rfl) (by kernel_rfl) (fun _ _ _ h => h) (.inl ⟨by rfl, fun W hW => by go_simp⟩) hHeld ?_
    simp only [Act.put, List.getElem_toArray, List.getElem_cons_zero, List.getElem_cons_succ, List.setIfInBounds_toArray, List.set_cons_zero, List.set_cons_succ]
    refine wpAnyH_ready (rs := [8]) (by kernel_rfl) (by simp) ?_
    refine AllReadyH.cons rfl (fun K' hK => ?_) AllReadyH.nil
    rw [if_pos (by rfl)]
    obtain ⟨WA, hWA, hth, WU, hWU, hrs, hss, hbs, hrl⟩ := box_new w8 68 #[.int .u64 0, .int .u64 0, .int .i64 0, .int .i64 0, .int .i64 0, .int .u64 0, .slice none 0 0, .slice none 0 0, .bool false] [.int .u64 0, .int .u64 0, .int .i64 0, .int .i64 1, .int .i64 0, .int .u64 2, .slice q8 0 c8, .slice q9 9 c9, .bool true] rfl
    have hBU : Below X6.heap.size X6 WU := hB8.trans (hbs.mono hB8.size)
    have hBA : Below X6.heap.size X6 WA := hB8.trans (by rw [← hWA]; exact ((Below.refl _ _).alloc (Nat.le_refl _) _).mono hB8.size)
    have HTH : Hid (WA.there w8.heap.size 0 9) := hth
    have HWU : Hid (WA.setCells w8.heap.size 0 (#[.int .u64 0, .int .u64 0, .int .i64 0, .int .i64 1, .int .i64 0, .int .u64 2, .slice q8 0 c8, .slice q9 9 c9, .bool true] : Array Value).toList = WU) := hWU
    have HO8 : Hid ((#[.int .u64 0, .int .u64 0, .int .i64 0, .int .i64 1, .int .i64 0, .int .u64 2, .slice q8 0 c8, .slice q9 9 c9, .bool true] : Array Value).all (·.oneCell') = true) := by show _ = _; simp [Value.oneCell']
    go_simp
    refine hK.out _ _ (HS7.out WA (hBA.block _ HG6.out.2.1) (hBA.block _ HG6.out.2.2)) (fun hHeld => ?_)
    clear hK K' hth hWU hrs hrl
    refine wpAnyH_ready (rs := [9]) (by kernel_rfl) (by simp) ?_
    refine AllReadyH.cons rfl (fun K' hK => ?_) AllReadyH.nil
    rw [if_pos (by rfl)]
    refine wp_store_mid 68 (.tmp 9) (.tmp 72) rfl w8.heap.size 0 #[.int .u64 0, .int .u64 0, .int .i64 0, .int .i64 1, .int .i64 0, .int .u64 2, .slice q8 0 c8, .slice q9 9 c9, .bool true] rfl rfl HTH.out sz_In HO8.out ?_
    rw [HWU.out]
    refine hK.out _ _ (HS7.out WU (hBU.block _ HG6.out.2.1) (hBU.block _ HG6.out.2.2)) (fun hHeld => ?_)
    clear hK K'
    refine wpAnyH_ready (rs := [10]) (by kernel_rfl) (by simp) ?_
    refine AllReadyH.cons rfl (fun K' hK => ?_) AllReadyH.nil
    rw [if_pos (by rfl)]
    go_simp
    refine hK.out _ _ (HS7.out WU (hBU.block _ HG6.out.2.1) (hBU.block _ HG6.out.2.2)) (fun hHeld => ?_)
    clear hK K'
    refine wpAnyH_done (by kernel_rfl) ?_ _
    clear hHeld
    have HBU : Hid (Below w.heap.size w WU) := HB6.out.trans (hBU.mono HB6.out.size)
    have hgU : WU.heap[w4.heap.size]? = some (.cells #[.int .u64 0, .int .u64 0, .int .i64 0, .int .i64 1, .int .i64 0, .int .u64 2, .slice q6 0 c6, .slice q7 9 c7, .bool true] 68 (0, 0)) := (hBU.block _ HG6.out.2.2).trans HG6.out.1
    have u7 := cell_of_row (k := 7) (v := .slice q7 9 c7) hgU rfl
    have u8 := cell_of_row (k := 8) (v := .bool true) hgU rfl
    have HRU : Hid (WU.rangeAt w4.heap.size 0 [.int .u64 0, .int .u64 0, .int .i64 0, .int .i64 1, .int .i64 0, .int .u64 2, .slice q6 0 c6, .slice q7 9 c7, .bool true]) := fun j u hu => by rw [Nat.zero_add]; exact cell_of_row hgU (by simpa using hu)
    have CA := hid (ack_l2 q6 q7 c6 c7 (fun b => b < X6.heap.size) WU (mIn _ _ _ _ _ _ (fun _ h => h) (kept_of (fun b hb => hb) hBU) HI6.out))
    have HOUT : Hid (∀ V, Calls Try.prog 15 #[.agg #[.int .u64 0, .int .u64 0, .int .i64 0, .int .i64 0, .int .i64 0, .slice none 0 0, .int .u64 0]] V fun e w' => e = .returned (.int .i64 6) ∧ Below V.heap.size V w') := fun V => out_l V
    clear CT2 HS7 hB8 hBU HWU HTH HO8 hgU HI6 HM6 HG6 HS6 HK7 HR0 SZ0
    go_wp2_with (refine wpList_load_midH rfl 68 _ rfl w4.heap.size 0 rfl _ _ HRU.out Try.underlying68 rfl sz_In ?_)
    refine CA.out.mono ?_
    rintro e w9 ⟨cl, rfl, hl9, hk9, hb9⟩
    have HB9 : Hid (Below w.heap.size w w9) := HBU.out.trans (hb9.mono HBU.out.size)
    have hfd := field37 cl _ hk9 w9
    clear CA HRU u7 u8 hb9
    go_wp2_with fail
    refine (HOUT.out w9).mono ?_
    rintro e w10 ⟨rfl, hb10⟩
    have HB10 : Hid (Below w.heap.size w w10) := HB9.out.trans (hb10.mono HB9.out.size)
    clear hb10 HOUT
    go_wp2_with fail
    go_ret
    exact ⟨rfl, HB10.out⟩
  · refine AllReadyH.cons rfl (fun K' hK => ?_) AllReadyH.nil
    rw [if_pos (by rfl)]
    obtain ⟨WA, hWA, hth, WU0, hWU0, hrs, hss, hbs, hrl⟩ := box_new W7 68 #[.int .u64 0, .int .u64 0, .int .i64 0, .int .i64 0, .int .i64 0, .int .u64 0, .slice none 0 0, .slice none 0 0, .bool false] [.int .u64 0, .int .u64 0, .int .i64 0, .int .i64 0, .int .i64 0, .int .u64 0, .slice none 0 0, .slice none 0 0, .bool false] rfl
    have hgA : WA.heap[W7.heap.size]? = some (.cells #[.int .u64 0, .int .u64 0, .int .i64 0, .int .i64 0, .int .i64 0, .int .u64 0, .slice none 0 0, .slice none 0 0, .bool false] 68 (0, 0)) := by rw [← hWA]; exact heap_alloc_new W7 _
    have hBA : Below X6.heap.size X6 WA := HK7.out.trans (by rw [← hWA]; exact ((Below.refl _ _).alloc (Nat.le_refl _) _).mono HK7.out.size)
    clear hth hWU0 hrs hss hbs hrl
    go_simp
    refine hK.out _ _ (HS7.out WA (hBA.block _ HG6.out.2.1) (hBA.block _ HG6.out.2.2)) (fun hHeld => ?_)
    clear hK K'
    refine wpAnyH_ready (rs := [4]) (by kernel_rfl) (by simp) ?_
    refine AllReadyH.cons rfl (fun K' hK => ?_) AllReadyH.nil
    rw [if_pos (by rfl)]
    clear hWA
    go_simp
    go_at_call 18
    refine (CT2.out WA hBA).mono ?_
    rintro e w8 ⟨q8, c8, q9, c9, rfl, hb8⟩
    have hB8 : Below X6.heap.size X6 w8 := hBA.trans (hb8.mono hBA.size)
    have hg8 : w8.heap[W7.heap.size]? = some (.cells #[.int .u64 0, .int .u64 0, .int .i64 0, .int .i64 0, .int .i64 0, .int .u64 0, .slice none 0 0, .slice none 0 0, .bool false] 68 (0, 0)) := (hb8.block _ (Array.getElem?_eq_some_iff.1 hgA).1).trans hgA
    obtain ⟨hth8, WU, hWU, _, hsU, hkU⟩ := put_row w8 W7.heap.size _ 68 hg8 [.int .u64 0, .int .u64 0, .int .i64 0, .int .i64 1, .int .i64 0, .int .u64 2, .slice q8 0 c8, .slice q9 9 c9, .bool true] rfl Try.underlying68 rfl sz_In
    have hBU : Below X6.heap.size X6 WU := ⟨hkU.os.trans hB8.os, hkU.tape.trans hB8.tape, hkU.output.trans hB8.output, by have := hB8.size; omega, fun b hb => (hkU.block b (by have := HK7.out.size; show b ≠ _; omega)).trans (hB8.block b hb)⟩
    have HTH : Hid (w8.there W7.heap.size 0 9) := hth8
    have HWU : Hid (w8.setCells W7.heap.size 0 (#[.int .u64 0, .int .u64 0, .int .i64 0, .int .i64 1, .int .i64 0, .int .u64 2, .slice q8 0 c8, .slice q9 9 c9, .bool true] : Array Value).toList = WU) := hWU
    have HO8 : Hid ((#[.int .u64 0, .int .u64 0, .int .i64 0, .int .i64 1, .int .i64 0, .int .u64 2, .slice q8 0 c8, .slice q9 9 c9, .bool true] : Array Value).all (·.oneCell') = true) := by show _ = _; simp [Value.oneCell']
    refine hK.out _ _ (HS7.out w8 (hB8.block _ HG6.out.2.1) (hB8.block _ HG6.out.2.2)) (fun hHeld => ?_)
    clear hK K' hb8 hg8 hth8 hWU hkU hsU hgA
    refine wpAnyH_take (i := 5) (v := .tuple #[.agg #[.int .u64 0, .int .u64 0, .int .i64 0, .int .i64 1, .int .i64 0, .int .u64 2, .slice q8 0 c8, .slice q9 9 c9, .bool true], .int .i64 15]) rfl (by kernel_rfl) (by kernel_rfl) (by kernel_rfl) (fun _ _ _ h => h) (.inl ⟨by rfl, fun W hW => by go_simp⟩) hHeld ?_
    simp only [Act.put, List.getElem_toArray, List.getElem_cons_zero, List.getElem_cons_succ, List.setIfInBounds_toArray, List.set_cons_zero, List.set_cons_succ]
    refine wpAnyH_take (i := 6) (v := .agg #[.int .u64 0, .int .u64 0, .int .i64 0, .int .i64 1, .int .i64 0, .int .u64 2, .slice q8 0 c8, .slice q9 9 c9, .bool true]) rfl (by kernel_rfl) (by kernel_rfl) (by kernel_rfl) (fun _ _ _ h => h) (.inl ⟨by rfl, fun W hW => by go_simp⟩) hHeld ?_
    simp only [Act.put, List.getElem_toArray, List.getElem_cons_zero, List.getElem_cons_succ, List.setIfInBounds_toArray, List.set_cons_zero, List.set_cons_succ]
    refine wpAnyH_take (i := 7) (v := .int .i64 15) rfl (by kernel_rfl) (by kernel_rfl) (by kernel_rfl) (fun _ _ _ h => h) (.inl ⟨by rfl, fun W hW => by go_simp⟩) hHeld ?_
    simp only [Act.put, List.getElem_toArray, List.getElem_cons_zero, List.getElem_cons_succ, List.setIfInBounds_toArray, List.set_cons_zero, List.set_cons_succ]
    refine wpAnyH_ready (rs := [9]) (by kernel_rfl) (by simp) ?_
    refine AllReadyH.cons rfl (fun K' hK => ?_) AllReadyH.nil
    rw [if_pos (by rfl)]
    refine wp_store_mid 68 (.tmp 9) (.tmp 72) rfl W7.heap.size 0 #[.int .u64 0, .int .u64 0, .int .i64 0, .int .i64 1, .int .i64 0, .int .u64 2, .slice q8 0 c8, .slice q9 9 c9, .bool true] rfl rfl HTH.out sz_In HO8.out ?_
    rw [HWU.out]
    refine hK.out _ _ (HS7.out WU (hBU.block _ HG6.out.2.1) (hBU.block _ HG6.out.2.2)) (fun hHeld => ?_)
    clear hK K'
    refine wpAnyH_ready (rs := [10]) (by kernel_rfl) (by simp) ?_
    refine AllReadyH.cons rfl (fun K' hK => ?_) AllReadyH.nil
    rw [if_pos (by rfl)]
    go_simp
    refine hK.out _ _ (HS7.out WU (hBU.block _ HG6.out.2.1) (hBU.block _ HG6.out.2.2)) (fun hHeld => ?_)
    clear hK K'
    refine wpAnyH_done (by kernel_rfl) ?_ _
    clear hHeld
    have HBU : Hid (Below w.heap.size w WU) := HB6.out.trans (hBU.mono HB6.out.size)
    have hgU : WU.heap[w4.heap.size]? = some (.cells #[.int .u64 0, .int .u64 0, .int .i64 0, .int .i64 1, .int .i64 0, .int .u64 2, .slice q6 0 c6, .slice q7 9 c7, .bool true] 68 (0, 0)) := (hBU.block _ HG6.out.2.2).trans HG6.out.1
    have u7 := cell_of_row (k := 7) (v := .slice q7 9 c7) hgU rfl
    have u8 := cell_of_row (k := 8) (v := .bool true) hgU rfl
    have HRU : Hid (WU.rangeAt w4.heap.size 0 [.int .u64 0, .int .u64 0, .int .i64 0, .int .i64 1, .int .i64 0, .int .u64 2, .slice q6 0 c6, .slice q7 9 c7, .bool true]) := fun j u hu => by rw [Nat.zero_add]; exact cell_of_row hgU (by simpa using hu)
    have CA := hid (ack_l2 q6 q7 c6 c7 (fun b => b < X6.heap.size) WU (mIn _ _ _ _ _ _ (fun _ h => h) (kept_of (fun b hb => hb) hBU) HI6.out))
    have HOUT : Hid (∀ V, Calls Try.prog 15 #[.agg #[.int .u64 0, .int .u64 0, .int .i64 0, .int .i64 0, .int .i64 0, .slice none 0 0, .int .u64 0]] V fun e w' => e = .returned (.int .i64 6) ∧ Below V.heap.size V w') := fun V => out_l V
    clear CT2 HS7 hB8 hBU HWU HTH HO8 hgU HI6 HM6 HG6 HS6 HK7 HR0 SZ0
    go_wp2_with (refine wpList_load_midH rfl 68 _ rfl w4.heap.size 0 rfl _ _ HRU.out Try.underlying68 rfl sz_In ?_)
    refine CA.out.mono ?_
    rintro e w9 ⟨cl, rfl, hl9, hk9, hb9⟩
    have HB9 : Hid (Below w.heap.size w w9) := HBU.out.trans (hb9.mono HBU.out.size)
    have hfd := field37 cl _ hk9 w9
    clear CA HRU u7 u8 hb9
    go_wp2_with fail
    refine (HOUT.out w9).mono ?_
    rintro e w10 ⟨rfl, hb10⟩
    have HB10 : Hid (Below w.heap.size w w10) := HB9.out.trans (hb10.mono HB9.out.size)
    clear hb10 HOUT
    go_wp2_with fail
    go_ret
    exact ⟨rfl, HB10.out⟩
end Go.Proofs.Ytcmiphgeakdonaa
