/- What WireFields answers. -/
import Derived.Test.YtaobmaehbkancaaDoorNcNd
import Derived.Test.YtaobmaehbkancaaDoorNe
import Derived.Test.YtaobmaehbkancaaDoorObOc
namespace Go.Proofs.YtaobmaehbkancaaDoor
open Go.Shelf Go.RowKit Go.Lib
set_option linter.unusedVariables false
set_option linter.unusedSimpArgs false
attribute [local go_sem ↓] Go.wp_at_zero Go.wp_at_succ
theorem wpList_load_midG {P : Program} {ops : Array Oper} {rest : List Oper} {op : Oper} {a : Act} {w : World} {Q : Exit → Act → World → Prop} (hw : Region.wanted op (yielded ops a.tmps) = true) (ty : TypeId) (x : Operand) (ho : op.op = .load ty x) (b o : Nat) (hx : a.eval x = .pointer (some ⟨b, o, none⟩)) (cs : List Value) (d : TypeDesc) (hc : w.rangeAt b o cs) (hu : P.underlying ty = some d) (hd : d.isRow = true) (hi : (P.info? ty).map (·.size) = some cs.length) (h : wpList P ops Q rest (a.put op.dst (.agg cs.toArray)) w) : wpList P ops Q (op :: rest) a w :=
  wpList_step fun K hK => by rw [if_pos hw]; exact wp_load_mid ty x ho b o hx cs d hc hu hd hi (hK _ _ h)
theorem via3 {G : Prop} {A Q : Nat → Nat → Nat → Prop} (h1 : (∀ a b c, A a b c → Q a b c) → G) (h2 : ∀ a b c, A a b c → Q a b c) : G := h1 h2
set_option maxRecDepth 100000 in
set_option maxHeartbeats 8000000 in
theorem law_any (cl : List Value) (D : Nat → Prop) (x : Mg) (n : Nat) (w : World) (hD : ∀ b, D b → b < w.heap.size) (hT : Lib.Utf8Tabs 0 1 w) (h2 : 1 < w.heap.size) (hm : MsgIs D w cl.toArray x) (hn : n < 18446744073709551616) :
    Calls Tryd.prog 4 #[.agg cl.toArray, .int .u64 (n : Int)] w fun e w' => e = .returned (.bool true) ∧ Below w.heap.size w w' := by
  have hcl : cl.length = 47 := by simpa using hm.size
  obtain ⟨W0, hW0⟩ : ∃ W0, w.alloc (.cells cl.toArray 49) = W0 := ⟨_, rfl⟩
  have hB0 : Below w.heap.size w W0 := by rw [← hW0]; exact (Below.refl _ _).alloc (Nat.le_refl _) _
  have hs0 : W0.heap.size = w.heap.size + 1 := by rw [← hW0]; simp
  have hr0 : W0.rangeAt w.heap.size 0 cl := by rw [← hW0]; exact range_new w cl 49
  have HT : Hid (∀ W, Below w.heap.size w W → Lib.Utf8Tabs 0 1 W ∧ 1 < W.heap.size) := fun W hb => ⟨Utf8Tabs.later hT h2 hb, Nat.lt_of_lt_of_le h2 hb.size⟩
  have HM : Hid (∀ W, Below w.heap.size w W → MsgIs D W cl.toArray x) := fun W hb => hm.keep (fun _ h => h) (Kept.of_below hb hD)
  have HD : Hid (∀ b, D b → b < w.heap.size) := hD
  have HI : Hid ((Tryd.prog.info? 49).map (·.size) = some cl.length) := by show _ = _; rw [hcl]; exact size49
  have HIA : Hid ((Tryd.prog.info? 49).map (·.size) = some cl.toArray.size) := by show _ = _; rw [show cl.toArray.size = 47 by simpa using hcl]; exact size49
  have HCL : Hid (cl.length = 47) := hcl
  have HON : Hid (cl.toArray.all (·.oneCell') = true) := msg_one hm
  have C1 : Hid (Calls Tryd.prog 5 #[] W0 fun e w' => e = .returned (.bool true) ∧ Below W0.heap.size W0 w') := lives_any W0 (HT.out W0 hB0).1 (HT.out W0 hB0).2
  have HB0 : Hid (Below w.heap.size w W0) := hB0
  have HS0 : Hid (W0.heap.size = w.heap.size + 1) := hs0
  have HR0 : Hid (W0.rangeAt w.heap.size 0 cl) := hr0
  clear hD hT h2 hm hB0 hs0 hr0 hcl
  go_enter Tryd.func4, Tryd.ntmps4
  go_wp2_with fail
  refine C1.out.mono ?_
  rintro e w1 ⟨rfl, hb1⟩
  have hB1 : Below w.heap.size w w1 := HB0.out.trans (hb1.mono HB0.out.size)
  have HR1 : Hid (∀ W, Below w1.heap.size w1 W → W.rangeAt w.heap.size 0 cl) := fun W hb j v hv => by
    have hl1 : w.heap.size < W0.heap.size := by have := HS0.out; omega
    rw [(hb1.trans (hb.mono hb1.size)).cell (p := ⟨w.heap.size, 0 + j, none⟩) hl1]
    exact HR0.out j v hv
  have C2 : Hid (Calls Tryd.prog 8 #[.agg cl.toArray] w1 fun e w' => e = .returned (.int .i64 (wrE x)) ∧ Below w1.heap.size w1 w') := check8_any cl D x w1 (fun b hb => Nat.lt_of_lt_of_le (HD.out b hb) hB1.size) (HT.out w1 hB1).1 (HT.out w1 hB1).2 (HM.out w1 hB1)
  have HB1 : Hid (Below w.heap.size w w1) := hB1
  have HLL : Hid (w.heap.size < w1.heap.size) := by have := HS0.out; have := hb1.size; show _ < _; omega
  clear C1 hb1 hB1
  go_wp2_with (first | (refine wpList_load_mid rfl 49 _ rfl w.heap.size 0 rfl cl _ (HR1.out _ (Below.refl _ _)) Tryd.underlying49 rfl HI.out ?_))
  refine C2.out.mono ?_
  rintro e w2 ⟨rfl, hb2⟩
  have hB2 : Below w.heap.size w w2 := HB1.out.trans (hb2.mono HB1.out.size)
  have HR2 : Hid (∀ W, Below w2.heap.size w2 W → W.rangeAt w.heap.size 0 cl) := fun W hb => HR1.out W (hb2.trans (hb.mono hb2.size))
  have HB2 : Hid (Below w.heap.size w w2) := hB2
  have HLS : Hid (w.heap.size < w2.heap.size) := Nat.lt_of_lt_of_le HLL.out hb2.size
  clear C2 hb2 hB2
  by_cases h0 : n = 0 ∨ wrE x ≠ 0
  · by_cases hw : wrE x = 0
    · have hz : n = 0 := h0.elim (fun h => h) (fun h => absurd hw h)
      subst hz
      go_wp2_with fail
      all_goals first | (go_ret; exact ⟨rfl, HB2.out⟩) | omega | (simp at *; done)
    · have hw2 : (wrE x == 0) = false := by simpa using hw
      go_wp2_with fail
      all_goals first | (go_ret; exact ⟨rfl, HB2.out⟩) | omega | (simp at *; done)
  go_wp2_with fail
  refine wp_region_held_drew (S := fun W => W.rangeAt w.heap.size 0 cl) (by kernel_rfl) (by show (w2.drew).rangeAt _ _ _; rw [World.rangeAt_drew]; exact HR2.out w2 (Below.refl _ _)) (fun hHeld => ?_)
  refine wpAnyH_take (i := 0) (v := .agg cl.toArray) rfl (by kernel_rfl) (by kernel_rfl) (by kernel_rfl) (fun _ _ _ h => h) (yieldsIf_load_mid (by rfl) 49 (.tmp 2) rfl w.heap.size 0 rfl cl _ (fun _ h => h) Tryd.underlying49 rfl HI.out) hHeld ?_
  simp only [Act.put, List.getElem_toArray, List.getElem_cons_zero, List.getElem_cons_succ, List.setIfInBounds_toArray, List.set_cons_zero, List.set_cons_succ]
  refine wpAnyH_take (i := 1) (v := .agg cl.toArray) rfl (by kernel_rfl) (by kernel_rfl) (by kernel_rfl) (fun _ _ _ h => h) (yieldsIf_load_mid (by rfl) 49 (.tmp 2) rfl w.heap.size 0 rfl cl _ (fun _ h => h) Tryd.underlying49 rfl HI.out) hHeld ?_
  simp only [Act.put, List.getElem_toArray, List.getElem_cons_zero, List.getElem_cons_succ, List.setIfInBounds_toArray, List.set_cons_zero, List.set_cons_succ]
  refine wpAnyH_take (i := 2) (v := .agg cl.toArray) rfl (by kernel_rfl) (by kernel_rfl) (by kernel_rfl) (fun _ _ _ h => h) (yieldsIf_load_mid (by rfl) 49 (.tmp 2) rfl w.heap.size 0 rfl cl _ (fun _ h => h) Tryd.underlying49 rfl HI.out) hHeld ?_
  simp only [Act.put, List.getElem_toArray, List.getElem_cons_zero, List.getElem_cons_succ, List.setIfInBounds_toArray, List.set_cons_zero, List.set_cons_succ]
  obtain ⟨w3, hw3⟩ : ∃ w3, w2.drew = w3 := ⟨_, rfl⟩
  rw [hw3] at hHeld ⊢
  have hB3 : Below w.heap.size w w3 := by rw [← hw3]; exact ⟨HB2.out.os, HB2.out.tape, HB2.out.output, HB2.out.size, HB2.out.block⟩
  have hl3 : w.heap.size < w3.heap.size := by rw [← hw3]; exact HLS.out
  have hr3 : w3.rangeAt w.heap.size 0 cl := hHeld
  have HB3 : Hid (Below w.heap.size w w3) := hB3
  have HL3 : Hid (w.heap.size < w3.heap.size) := hl3
  have HR3 : Hid (w3.rangeAt w.heap.size 0 cl) := hr3
  clear hw3 hB3 hl3 hr3 HB2 HR2 HLS HB1 HR1 HLL
  obtain ⟨WA, hWA, ht⟩ := trio w3 cl HCL.out
  have HTR : Hid (∀ a b c, Trio w3.heap.size a b c →
    WA.there a 0 cl.toArray.size ∧ (WA.setCells a 0 cl.toArray.toList).there b 0 cl.toArray.size ∧ ((WA.setCells a 0 cl.toArray.toList).setCells b 0 cl.toArray.toList).there c 0 cl.toArray.size ∧
    ∃ WS, ((WA.setCells a 0 cl.toArray.toList).setCells b 0 cl.toArray.toList).setCells c 0 cl.toArray.toList = WS ∧ Box WS a cl ∧ Box WS b cl ∧ Box WS c cl ∧ Below w3.heap.size w3 WS ∧ WS.heap.size = w3.heap.size + 3) := ht
  clear ht
  unfold zc at hWA
  refine via3 (A := Trio w3.heap.size) (Q := ?QQ3) (fun key => ?tree3) ?rest3
  case tree3 =>
    refine wpAnyH_ready (rs := [3, 4, 5]) (by kernel_rfl) (by simp) ?_
    refine AllReadyH.cons rfl (fun K hK => ?_) ?_
    · go_simp
      refine hK.out _ _ (World.rangeAt_alloc hHeld _) (fun hHeld => ?_)
      clear hK K
      refine wpAnyH_ready (rs := [4, 5]) (by kernel_rfl) (by simp) ?_
      refine AllReadyH.cons rfl (fun K hK => ?_) ?_
      · go_simp
        refine hK.out _ _ (World.rangeAt_alloc hHeld _) (fun hHeld => ?_)
        clear hK K
        refine wpAnyH_ready (rs := [5]) (by kernel_rfl) (by simp) ?_
        refine AllReadyH.cons rfl (fun K hK => ?_) AllReadyH.nil
        go_simp
        refine hK.out _ _ (by rw [← hWA]; exact World.rangeAt_alloc hHeld _) (fun hHeld => ?_)
        clear hK K
        have hT := HTR.out w3.heap.size (w3.heap.size + 1) (w3.heap.size + 1 + 1) (by unfold Trio; omega)
        refine wpAnyH_ready (rs := [6]) (by kernel_rfl) (by simp) ?_
        refine AllReadyH.cons rfl (fun K hK => ?_) AllReadyH.nil
        rw [if_pos (by rfl)]
        refine wp_store_mid 49 _ _ rfl w3.heap.size 0 cl.toArray rfl rfl hT.1 HIA.out HON.out ?_
        simp only [Act.put, List.getElem_toArray, List.getElem_cons_zero, List.getElem_cons_succ, List.setIfInBounds_toArray, List.set_cons_zero, List.set_cons_succ]
        refine hK.out _ _ (World.rangeAt_setCells_apart hHeld _ _ _ (.inl (by have := HL3.out; omega))) (fun hHeld => ?_)
        clear hK K
        refine wpAnyH_ready (rs := [7]) (by kernel_rfl) (by simp) ?_
        refine AllReadyH.cons rfl (fun K hK => ?_) AllReadyH.nil
        rw [if_pos (by rfl)]
        refine wp_store_mid 49 _ _ rfl (w3.heap.size + 1) 0 cl.toArray rfl rfl hT.2.1 HIA.out HON.out ?_
        simp only [Act.put, List.getElem_toArray, List.getElem_cons_zero, List.getElem_cons_succ, List.setIfInBounds_toArray, List.set_cons_zero, List.set_cons_succ]
        refine hK.out _ _ (World.rangeAt_setCells_apart hHeld _ _ _ (.inl (by have := HL3.out; omega))) (fun hHeld => ?_)
        clear hK K
        refine wpAnyH_ready (rs := [8]) (by kernel_rfl) (by simp) ?_
        refine AllReadyH.cons rfl (fun K hK => ?_) AllReadyH.nil
        rw [if_pos (by rfl)]
        refine wp_store_mid 49 _ _ rfl (w3.heap.size + 1 + 1) 0 cl.toArray rfl rfl hT.2.2.1 HIA.out HON.out ?_
        simp only [Act.put, List.getElem_toArray, List.getElem_cons_zero, List.getElem_cons_succ, List.setIfInBounds_toArray, List.set_cons_zero, List.set_cons_succ]
        refine hK.out _ _ (World.rangeAt_setCells_apart hHeld _ _ _ (.inl (by have := HL3.out; omega))) (fun hHeld => ?_)
        clear hK K
        refine wpAnyH_done (by kernel_rfl) ?_ _
        clear hT hHeld
        obtain ⟨b7, hb7⟩ : ∃ b7, w3.heap.size + 1 + 1 = b7 := ⟨_, rfl⟩
        rw [hb7]
        obtain ⟨b6, hb6⟩ : ∃ b6, w3.heap.size + 1 = b6 := ⟨_, rfl⟩
        rw [hb6]
        obtain ⟨b5, hb5⟩ : ∃ b5, w3.heap.size = b5 := ⟨_, rfl⟩
        rw [hb5]
        exact key b5 b6 b7 (by unfold Trio; omega)
      refine AllReadyH.cons rfl (fun K hK => ?_) AllReadyH.nil
      go_simp
      refine hK.out _ _ (World.rangeAt_alloc hHeld _) (fun hHeld => ?_)
      clear hK K
      refine wpAnyH_ready (rs := [4]) (by kernel_rfl) (by simp) ?_
      refine AllReadyH.cons rfl (fun K hK => ?_) AllReadyH.nil
      go_simp
      refine hK.out _ _ (by rw [← hWA]; exact World.rangeAt_alloc hHeld _) (fun hHeld => ?_)
      clear hK K
      have hT := HTR.out w3.heap.size (w3.heap.size + 1 + 1) (w3.heap.size + 1) (by unfold Trio; omega)
      refine wpAnyH_ready (rs := [6]) (by kernel_rfl) (by simp) ?_
      refine AllReadyH.cons rfl (fun K hK => ?_) AllReadyH.nil
      rw [if_pos (by rfl)]
      refine wp_store_mid 49 _ _ rfl w3.heap.size 0 cl.toArray rfl rfl hT.1 HIA.out HON.out ?_
      simp only [Act.put, List.getElem_toArray, List.getElem_cons_zero, List.getElem_cons_succ, List.setIfInBounds_toArray, List.set_cons_zero, List.set_cons_succ]
      refine hK.out _ _ (World.rangeAt_setCells_apart hHeld _ _ _ (.inl (by have := HL3.out; omega))) (fun hHeld => ?_)
      clear hK K
      refine wpAnyH_ready (rs := [7]) (by kernel_rfl) (by simp) ?_
      refine AllReadyH.cons rfl (fun K hK => ?_) AllReadyH.nil
      rw [if_pos (by rfl)]
      refine wp_store_mid 49 _ _ rfl (w3.heap.size + 1 + 1) 0 cl.toArray rfl rfl hT.2.1 HIA.out HON.out ?_
      simp only [Act.put, List.getElem_toArray, List.getElem_cons_zero, List.getElem_cons_succ, List.setIfInBounds_toArray, List.set_cons_zero, List.set_cons_succ]
      refine hK.out _ _ (World.rangeAt_setCells_apart hHeld _ _ _ (.inl (by have := HL3.out; omega))) (fun hHeld => ?_)
      clear hK K
      refine wpAnyH_ready (rs := [8]) (by kernel_rfl) (by simp) ?_
      refine AllReadyH.cons rfl (fun K hK => ?_) AllReadyH.nil
      rw [if_pos (by rfl)]
      refine wp_store_mid 49 _ _ rfl (w3.heap.size + 1) 0 cl.toArray rfl rfl hT.2.2.1 HIA.out HON.out ?_
      simp only [Act.put, List.getElem_toArray, List.getElem_cons_zero, List.getElem_cons_succ, List.setIfInBounds_toArray, List.set_cons_zero, List.set_cons_succ]
      refine hK.out _ _ (World.rangeAt_setCells_apart hHeld _ _ _ (.inl (by have := HL3.out; omega))) (fun hHeld => ?_)
      clear hK K
      refine wpAnyH_done (by kernel_rfl) ?_ _
      exact key w3.heap.size (w3.heap.size + 1 + 1) (w3.heap.size + 1) (by unfold Trio; omega)
    refine AllReadyH.cons rfl (fun K hK => ?_) ?_
    · go_simp
      refine hK.out _ _ (World.rangeAt_alloc hHeld _) (fun hHeld => ?_)
      clear hK K
      refine wpAnyH_ready (rs := [3, 5]) (by kernel_rfl) (by simp) ?_
      refine AllReadyH.cons rfl (fun K hK => ?_) ?_
      · go_simp
        refine hK.out _ _ (World.rangeAt_alloc hHeld _) (fun hHeld => ?_)
        clear hK K
        refine wpAnyH_ready (rs := [5]) (by kernel_rfl) (by simp) ?_
        refine AllReadyH.cons rfl (fun K hK => ?_) AllReadyH.nil
        go_simp
        refine hK.out _ _ (by rw [← hWA]; exact World.rangeAt_alloc hHeld _) (fun hHeld => ?_)
        clear hK K
        have hT := HTR.out (w3.heap.size + 1) w3.heap.size (w3.heap.size + 1 + 1) (by unfold Trio; omega)
        refine wpAnyH_ready (rs := [6]) (by kernel_rfl) (by simp) ?_
        refine AllReadyH.cons rfl (fun K hK => ?_) AllReadyH.nil
        rw [if_pos (by rfl)]
        refine wp_store_mid 49 _ _ rfl (w3.heap.size + 1) 0 cl.toArray rfl rfl hT.1 HIA.out HON.out ?_
        simp only [Act.put, List.getElem_toArray, List.getElem_cons_zero, List.getElem_cons_succ, List.setIfInBounds_toArray, List.set_cons_zero, List.set_cons_succ]
        refine hK.out _ _ (World.rangeAt_setCells_apart hHeld _ _ _ (.inl (by have := HL3.out; omega))) (fun hHeld => ?_)
        clear hK K
        refine wpAnyH_ready (rs := [7]) (by kernel_rfl) (by simp) ?_
        refine AllReadyH.cons rfl (fun K hK => ?_) AllReadyH.nil
        rw [if_pos (by rfl)]
        refine wp_store_mid 49 _ _ rfl w3.heap.size 0 cl.toArray rfl rfl hT.2.1 HIA.out HON.out ?_
        simp only [Act.put, List.getElem_toArray, List.getElem_cons_zero, List.getElem_cons_succ, List.setIfInBounds_toArray, List.set_cons_zero, List.set_cons_succ]
        refine hK.out _ _ (World.rangeAt_setCells_apart hHeld _ _ _ (.inl (by have := HL3.out; omega))) (fun hHeld => ?_)
        clear hK K
        refine wpAnyH_ready (rs := [8]) (by kernel_rfl) (by simp) ?_
        refine AllReadyH.cons rfl (fun K hK => ?_) AllReadyH.nil
        rw [if_pos (by rfl)]
        refine wp_store_mid 49 _ _ rfl (w3.heap.size + 1 + 1) 0 cl.toArray rfl rfl hT.2.2.1 HIA.out HON.out ?_
        simp only [Act.put, List.getElem_toArray, List.getElem_cons_zero, List.getElem_cons_succ, List.setIfInBounds_toArray, List.set_cons_zero, List.set_cons_succ]
        refine hK.out _ _ (World.rangeAt_setCells_apart hHeld _ _ _ (.inl (by have := HL3.out; omega))) (fun hHeld => ?_)
        clear hK K
        refine wpAnyH_done (by kernel_rfl) ?_ _
        exact key (w3.heap.size + 1) w3.heap.size (w3.heap.size + 1 + 1) (by unfold Trio; omega)
      refine AllReadyH.cons rfl (fun K hK => ?_) AllReadyH.nil
      go_simp
      refine hK.out _ _ (World.rangeAt_alloc hHeld _) (fun hHeld => ?_)
      clear hK K
      refine wpAnyH_ready (rs := [3]) (by kernel_rfl) (by simp) ?_
      refine AllReadyH.cons rfl (fun K hK => ?_) AllReadyH.nil
      go_simp
      refine hK.out _ _ (by rw [← hWA]; exact World.rangeAt_alloc hHeld _) (fun hHeld => ?_)
      clear hK K
      have hT := HTR.out (w3.heap.size + 1 + 1) w3.heap.size (w3.heap.size + 1) (by unfold Trio; omega)
      refine wpAnyH_ready (rs := [6]) (by kernel_rfl) (by simp) ?_
      refine AllReadyH.cons rfl (fun K hK => ?_) AllReadyH.nil
      rw [if_pos (by rfl)]
      refine wp_store_mid 49 _ _ rfl (w3.heap.size + 1 + 1) 0 cl.toArray rfl rfl hT.1 HIA.out HON.out ?_
      simp only [Act.put, List.getElem_toArray, List.getElem_cons_zero, List.getElem_cons_succ, List.setIfInBounds_toArray, List.set_cons_zero, List.set_cons_succ]
      refine hK.out _ _ (World.rangeAt_setCells_apart hHeld _ _ _ (.inl (by have := HL3.out; omega))) (fun hHeld => ?_)
      clear hK K
      refine wpAnyH_ready (rs := [7]) (by kernel_rfl) (by simp) ?_
      refine AllReadyH.cons rfl (fun K hK => ?_) AllReadyH.nil
      rw [if_pos (by rfl)]
      refine wp_store_mid 49 _ _ rfl w3.heap.size 0 cl.toArray rfl rfl hT.2.1 HIA.out HON.out ?_
      simp only [Act.put, List.getElem_toArray, List.getElem_cons_zero, List.getElem_cons_succ, List.setIfInBounds_toArray, List.set_cons_zero, List.set_cons_succ]
      refine hK.out _ _ (World.rangeAt_setCells_apart hHeld _ _ _ (.inl (by have := HL3.out; omega))) (fun hHeld => ?_)
      clear hK K
      refine wpAnyH_ready (rs := [8]) (by kernel_rfl) (by simp) ?_
      refine AllReadyH.cons rfl (fun K hK => ?_) AllReadyH.nil
      rw [if_pos (by rfl)]
      refine wp_store_mid 49 _ _ rfl (w3.heap.size + 1) 0 cl.toArray rfl rfl hT.2.2.1 HIA.out HON.out ?_
      simp only [Act.put, List.getElem_toArray, List.getElem_cons_zero, List.getElem_cons_succ, List.setIfInBounds_toArray, List.set_cons_zero, List.set_cons_succ]
      refine hK.out _ _ (World.rangeAt_setCells_apart hHeld _ _ _ (.inl (by have := HL3.out; omega))) (fun hHeld => ?_)
      clear hK K
      refine wpAnyH_done (by kernel_rfl) ?_ _
      exact key (w3.heap.size + 1 + 1) w3.heap.size (w3.heap.size + 1) (by unfold Trio; omega)
    refine AllReadyH.cons rfl (fun K hK => ?_) AllReadyH.nil
    go_simp
    refine hK.out _ _ (World.rangeAt_alloc hHeld _) (fun hHeld => ?_)
    clear hK K
    refine wpAnyH_ready (rs := [3, 4]) (by kernel_rfl) (by simp) ?_
    refine AllReadyH.cons rfl (fun K hK => ?_) ?_
    · go_simp
      refine hK.out _ _ (World.rangeAt_alloc hHeld _) (fun hHeld => ?_)
      clear hK K
      refine wpAnyH_ready (rs := [4]) (by kernel_rfl) (by simp) ?_
      refine AllReadyH.cons rfl (fun K hK => ?_) AllReadyH.nil
      go_simp
      refine hK.out _ _ (by rw [← hWA]; exact World.rangeAt_alloc hHeld _) (fun hHeld => ?_)
      clear hK K
      have hT := HTR.out (w3.heap.size + 1) (w3.heap.size + 1 + 1) w3.heap.size (by unfold Trio; omega)
      refine wpAnyH_ready (rs := [6]) (by kernel_rfl) (by simp) ?_
      refine AllReadyH.cons rfl (fun K hK => ?_) AllReadyH.nil
      rw [if_pos (by rfl)]
      refine wp_store_mid 49 _ _ rfl (w3.heap.size + 1) 0 cl.toArray rfl rfl hT.1 HIA.out HON.out ?_
      simp only [Act.put, List.getElem_toArray, List.getElem_cons_zero, List.getElem_cons_succ, List.setIfInBounds_toArray, List.set_cons_zero, List.set_cons_succ]
      refine hK.out _ _ (World.rangeAt_setCells_apart hHeld _ _ _ (.inl (by have := HL3.out; omega))) (fun hHeld => ?_)
      clear hK K
      refine wpAnyH_ready (rs := [7]) (by kernel_rfl) (by simp) ?_
      refine AllReadyH.cons rfl (fun K hK => ?_) AllReadyH.nil
      rw [if_pos (by rfl)]
      refine wp_store_mid 49 _ _ rfl (w3.heap.size + 1 + 1) 0 cl.toArray rfl rfl hT.2.1 HIA.out HON.out ?_
      simp only [Act.put, List.getElem_toArray, List.getElem_cons_zero, List.getElem_cons_succ, List.setIfInBounds_toArray, List.set_cons_zero, List.set_cons_succ]
      refine hK.out _ _ (World.rangeAt_setCells_apart hHeld _ _ _ (.inl (by have := HL3.out; omega))) (fun hHeld => ?_)
      clear hK K
      refine wpAnyH_ready (rs := [8]) (by kernel_rfl) (by simp) ?_
      refine AllReadyH.cons rfl (fun K hK => ?_) AllReadyH.nil
      rw [if_pos (by rfl)]
      refine wp_store_mid 49 _ _ rfl w3.heap.size 0 cl.toArray rfl rfl hT.2.2.1 HIA.out HON.out ?_
      simp only [Act.put, List.getElem_toArray, List.getElem_cons_zero, List.getElem_cons_succ, List.setIfInBounds_toArray, List.set_cons_zero, List.set_cons_succ]
      refine hK.out _ _ (World.rangeAt_setCells_apart hHeld _ _ _ (.inl (by have := HL3.out; omega))) (fun hHeld => ?_)
      clear hK K
      refine wpAnyH_done (by kernel_rfl) ?_ _
      exact key (w3.heap.size + 1) (w3.heap.size + 1 + 1) w3.heap.size (by unfold Trio; omega)
    refine AllReadyH.cons rfl (fun K hK => ?_) AllReadyH.nil
    go_simp
    refine hK.out _ _ (World.rangeAt_alloc hHeld _) (fun hHeld => ?_)
    clear hK K
    refine wpAnyH_ready (rs := [3]) (by kernel_rfl) (by simp) ?_
    refine AllReadyH.cons rfl (fun K hK => ?_) AllReadyH.nil
    go_simp
    refine hK.out _ _ (by rw [← hWA]; exact World.rangeAt_alloc hHeld _) (fun hHeld => ?_)
    clear hK K
    have hT := HTR.out (w3.heap.size + 1 + 1) (w3.heap.size + 1) w3.heap.size (by unfold Trio; omega)
    refine wpAnyH_ready (rs := [6]) (by kernel_rfl) (by simp) ?_
    refine AllReadyH.cons rfl (fun K hK => ?_) AllReadyH.nil
    rw [if_pos (by rfl)]
    refine wp_store_mid 49 _ _ rfl (w3.heap.size + 1 + 1) 0 cl.toArray rfl rfl hT.1 HIA.out HON.out ?_
    simp only [Act.put, List.getElem_toArray, List.getElem_cons_zero, List.getElem_cons_succ, List.setIfInBounds_toArray, List.set_cons_zero, List.set_cons_succ]
    refine hK.out _ _ (World.rangeAt_setCells_apart hHeld _ _ _ (.inl (by have := HL3.out; omega))) (fun hHeld => ?_)
    clear hK K
    refine wpAnyH_ready (rs := [7]) (by kernel_rfl) (by simp) ?_
    refine AllReadyH.cons rfl (fun K hK => ?_) AllReadyH.nil
    rw [if_pos (by rfl)]
    refine wp_store_mid 49 _ _ rfl (w3.heap.size + 1) 0 cl.toArray rfl rfl hT.2.1 HIA.out HON.out ?_
    simp only [Act.put, List.getElem_toArray, List.getElem_cons_zero, List.getElem_cons_succ, List.setIfInBounds_toArray, List.set_cons_zero, List.set_cons_succ]
    refine hK.out _ _ (World.rangeAt_setCells_apart hHeld _ _ _ (.inl (by have := HL3.out; omega))) (fun hHeld => ?_)
    clear hK K
    refine wpAnyH_ready (rs := [8]) (by kernel_rfl) (by simp) ?_
    refine AllReadyH.cons rfl (fun K hK => ?_) AllReadyH.nil
    rw [if_pos (by rfl)]
    refine wp_store_mid 49 _ _ rfl w3.heap.size 0 cl.toArray rfl rfl hT.2.2.1 HIA.out HON.out ?_
    simp only [Act.put, List.getElem_toArray, List.getElem_cons_zero, List.getElem_cons_succ, List.setIfInBounds_toArray, List.set_cons_zero, List.set_cons_succ]
    refine hK.out _ _ (World.rangeAt_setCells_apart hHeld _ _ _ (.inl (by have := HL3.out; omega))) (fun hHeld => ?_)
    clear hK K
    refine wpAnyH_done (by kernel_rfl) ?_ _
    exact key (w3.heap.size + 1 + 1) (w3.heap.size + 1) w3.heap.size (by unfold Trio; omega)
  clear hHeld
  intro a b c htr
  obtain ⟨_, _, _, WS, hWS, hba, hbb, hbc, hbs, hss⟩ := HTR.out a b c htr
  rw [hWS]
  clear hWS
  have HBA : Hid (Box WS a cl) := hba
  have HBB : Hid (Box WS b cl) := hbb
  have HBC : Hid (Box WS c cl) := hbc
  have HTO : Hid (Trio w3.heap.size a b c) := htr
  have HBS : Hid (Below w3.heap.size w3 WS) := hbs
  have HSS : Hid (WS.heap.size = w3.heap.size + 3) := hss
  clear hba hbb hbc hbs hss htr HTR hWA
  obtain ⟨W5, W6, W7, W8, h5, h6, h7, h8, ⟨⟨z5, hc5⟩, hf5⟩, ⟨⟨z6, hc6⟩, hf6⟩, ⟨⟨z7, hc7⟩, hf7⟩, hA, hB, hC, hbe, hsz, hone⟩ := sets3 n HBA.out HBB.out HBC.out HTO.out HSS.out
  have hn0 : n ≠ 0 := fun e => h0 (.inl e)
  have hB8 : Below w.heap.size w W8 := HB3.out.trans ((HBS.out.trans hbe).mono HB3.out.size)
  have hs8 : w.heap.size < W8.heap.size := Nat.lt_of_lt_of_le HL3.out (HBS.out.trans hbe).size
  have hlt : a < W8.heap.size ∧ b < W8.heap.size ∧ c < W8.heap.size ∧ WS.heap.size < W8.heap.size := ⟨hA.lt, hB.lt, hC.lt, by have := HSS.out; omega⟩
  have M8 : MsgIs D W8 cl.toArray x := HM.out W8 hB8
  have HBW : Hid (∀ W, Below W8.heap.size W8 W → Below w.heap.size w W) := fun W hb => hB8.trans (hb.mono hB8.size)
  have HX : Hid (∀ W, Below W8.heap.size W8 W → W.rangeAt a 0 (cl.set 1 (.int .u64 (n : Int)))) := fun W hb => (hA.below hb hlt.1).r
  have HY : Hid (∀ W, Below W8.heap.size W8 W → W.rangeAt b 0 (cl.set 37 (.int .u64 (n : Int)))) := fun W hb => (hB.below hb hlt.2.1).r
  have HZ : Hid (∀ W, Below W8.heap.size W8 W → W.rangeAt c 0 (cl.set 36 (.slice (some ⟨WS.heap.size, 0, none⟩) 1 1))) := fun W hb => (hC.below hb hlt.2.2.1).r
  have HIX : Hid ((Tryd.prog.info? 49).map (·.size) = some (cl.set 1 (.int .u64 (n : Int))).length) := by show _ = _; rw [List.length_set]; exact HI.out
  have HIY : Hid ((Tryd.prog.info? 49).map (·.size) = some (cl.set 37 (.int .u64 (n : Int))).length) := by show _ = _; rw [List.length_set]; exact HI.out
  have HIZ : Hid ((Tryd.prog.info? 49).map (·.size) = some (cl.set 36 (.slice (some ⟨WS.heap.size, 0, none⟩) 1 1)).length) := by show _ = _; rw [List.length_set]; exact HI.out
  have hD8 : ∀ W, Below W8.heap.size W8 W → ∀ d, D d → d < W.heap.size := fun W hb d hd => Nat.lt_of_lt_of_le (HD.out d hd) (Nat.le_trans hB8.size hb.size)
  have hkd : ∀ (E : Nat → Prop) W, Below W8.heap.size W8 W → (∀ d, E d → d < W8.heap.size) → Kept E W8 W := fun E W hb hE => Kept.of_below hb hE
  have CX : Hid (x.k ≠ 1 → ∀ W, Below W8.heap.size W8 W → Calls Tryd.prog 8 #[.agg (cl.set 1 (.int .u64 (n : Int))).toArray] W fun e w' => e = .returned (.int .i64 11) ∧ Below W8.heap.size W8 w') := fun hk W hb => by
    have := check8_any _ D _ W (hD8 W hb) (HT.out W (HBW.out W hb)).1 (HT.out W (HBW.out W hb)).2 ((set_boot M8 n hn).keep (fun _ h => h) (hkd D W hb (hD8 W8 (Below.refl _ _))))
    rw [no_boot x n hn0 hk] at this
    exact this.mono fun e w' ⟨h1, h2⟩ => ⟨h1, hb.trans (h2.mono hb.size)⟩
  have CY : Hid (x.k ≠ 4 → x.k ≠ 5 → ∀ W, Below W8.heap.size W8 W → Calls Tryd.prog 8 #[.agg (cl.set 37 (.int .u64 (n : Int))).toArray] W fun e w' => e = .returned (.int .i64 11) ∧ Below W8.heap.size W8 w') := fun hk hk2 W hb => by
    have := check8_any _ D _ W (hD8 W hb) (HT.out W (HBW.out W hb)).1 (HT.out W (HBW.out W hb)).2 ((set_seq M8 n hn).keep (fun _ h => h) (hkd D W hb (hD8 W8 (Below.refl _ _))))
    rw [no_seq x n hn0 hk hk2] at this
    exact this.mono fun e w' ⟨h1, h2⟩ => ⟨h1, hb.trans (h2.mono hb.size)⟩
  have CZ : Hid (x.k ≠ 2 → ∀ W, Below W8.heap.size W8 W → Calls Tryd.prog 8 #[.agg (cl.set 36 (.slice (some ⟨WS.heap.size, 0, none⟩) 1 1)).toArray] W fun e w' => e = .returned (.int .i64 11) ∧ Below W8.heap.size W8 w') := fun hk W hb => by
    have hE : ∀ (W' : World), Below W8.heap.size W8 W' → ∀ d, (D d ∨ d = WS.heap.size) → d < W'.heap.size := fun W' hb' d hd => hd.elim (hD8 W' hb' d) (fun e => by rw [e]; exact Nat.lt_of_lt_of_le hlt.2.2.2 hb'.size)
    have := check8_any _ _ _ W (hE W hb) (HT.out W (HBW.out W hb)).1 (HT.out W (HBW.out W hb)).2 ((set_nodes M8 WS.heap.size hone).keep (fun _ h => h) (hkd _ W hb (hE W8 (Below.refl _ _))))
    rw [no_nodes x hk] at this
    exact this.mono fun e w' ⟨h1, h2⟩ => ⟨h1, hb.trans (h2.mono hb.size)⟩
  have HK : Hid (∀ W, Below W8.heap.size W8 W → W.cell? ⟨w.heap.size, 0, none⟩ = some (.int .u8 (x.k : Int))) := fun W hb => by
    have hbb : Below w3.heap.size w3 W := (HBS.out.trans hbe).trans (hb.mono (HBS.out.trans hbe).size)
    rw [hbb.cell (p := ⟨w.heap.size, 0, none⟩) HL3.out]
    have h1 := M8.kc
    have h2 : cl[0]? = some (.int .u8 (x.k : Int)) := by simpa using h1
    exact HR3.out 0 _ h2
  have HC5 : Hid (W5.cell? ⟨a, 1, none⟩ = some z5) := hc5
  clear hA hB hC hbe hsz hone hB8 hs8 hlt M8 hD8 hkd HBA HBB HBC HTO HBS HSS HB3 HL3 HR3 HM HT HD HI HIA HCL HON hn
  clear HC5
  by_cases hk : x.k = 1
  · have hk0 := HK.out W8 (Below.refl _ _)
    rw [hk] at hk0
    go_wp2_with (first | (refine wpList_load_midG rfl 49 _ rfl b 0 rfl (cl.set 37 (.int .u64 (n : Int))) _ (HY.out _ (Below.refl _ _)) Tryd.underlying49 rfl HIY.out ?_))
    refine (CY.out (by omega) (by omega) W8 (Below.refl _ _)).mono ?_
    rintro e v1 ⟨rfl, hb1⟩
    have hk1 := HK.out v1 hb1
    rw [hk] at hk1
    go_wp2_with (first | (refine wpList_load_midG rfl 49 _ rfl c 0 rfl (cl.set 36 (.slice (some ⟨WS.heap.size, 0, none⟩) 1 1)) _ (HZ.out _ hb1) Tryd.underlying49 rfl HIZ.out ?_))
    refine (CZ.out (by omega) v1 hb1).mono ?_
    rintro e v2 ⟨rfl, hb2⟩
    have hk2 := HK.out v2 hb2
    rw [hk] at hk2
    go_wp2_with fail
    go_ret
    exact ⟨rfl, HBW.out _ hb2⟩
  by_cases hk : x.k = 2
  · have hk0 := HK.out W8 (Below.refl _ _)
    rw [hk] at hk0
    go_wp2_with (first | (refine wpList_load_midG rfl 49 _ rfl a 0 rfl (cl.set 1 (.int .u64 (n : Int))) _ (HX.out _ (Below.refl _ _)) Tryd.underlying49 rfl HIX.out ?_))
    refine (CX.out (by omega) W8 (Below.refl _ _)).mono ?_
    rintro e v1 ⟨rfl, hb1⟩
    have hk1 := HK.out v1 hb1
    rw [hk] at hk1
    go_wp2_with (first | (refine wpList_load_midG rfl 49 _ rfl b 0 rfl (cl.set 37 (.int .u64 (n : Int))) _ (HY.out _ hb1) Tryd.underlying49 rfl HIY.out ?_))
    refine (CY.out (by omega) (by omega) v1 hb1).mono ?_
    rintro e v2 ⟨rfl, hb2⟩
    have hk2 := HK.out v2 hb2
    rw [hk] at hk2
    go_wp2_with fail
    go_ret
    exact ⟨rfl, HBW.out _ hb2⟩
  by_cases hk : x.k = 4
  · have hk0 := HK.out W8 (Below.refl _ _)
    rw [hk] at hk0
    go_wp2_with (first | (refine wpList_load_midG rfl 49 _ rfl a 0 rfl (cl.set 1 (.int .u64 (n : Int))) _ (HX.out _ (Below.refl _ _)) Tryd.underlying49 rfl HIX.out ?_))
    refine (CX.out (by omega) W8 (Below.refl _ _)).mono ?_
    rintro e v1 ⟨rfl, hb1⟩
    have hk1 := HK.out v1 hb1
    rw [hk] at hk1
    go_wp2_with (first | (refine wpList_load_midG rfl 49 _ rfl c 0 rfl (cl.set 36 (.slice (some ⟨WS.heap.size, 0, none⟩) 1 1)) _ (HZ.out _ hb1) Tryd.underlying49 rfl HIZ.out ?_))
    refine (CZ.out (by omega) v1 hb1).mono ?_
    rintro e v2 ⟨rfl, hb2⟩
    have hk2 := HK.out v2 hb2
    rw [hk] at hk2
    go_wp2_with fail
    go_ret
    exact ⟨rfl, HBW.out _ hb2⟩
  by_cases hk : x.k = 5
  · have hk0 := HK.out W8 (Below.refl _ _)
    rw [hk] at hk0
    go_wp2_with (first | (refine wpList_load_midG rfl 49 _ rfl a 0 rfl (cl.set 1 (.int .u64 (n : Int))) _ (HX.out _ (Below.refl _ _)) Tryd.underlying49 rfl HIX.out ?_))
    refine (CX.out (by omega) W8 (Below.refl _ _)).mono ?_
    rintro e v1 ⟨rfl, hb1⟩
    have hk1 := HK.out v1 hb1
    rw [hk] at hk1
    go_wp2_with (first | (refine wpList_load_midG rfl 49 _ rfl c 0 rfl (cl.set 36 (.slice (some ⟨WS.heap.size, 0, none⟩) 1 1)) _ (HZ.out _ hb1) Tryd.underlying49 rfl HIZ.out ?_))
    refine (CZ.out (by omega) v1 hb1).mono ?_
    rintro e v2 ⟨rfl, hb2⟩
    have hk2 := HK.out v2 hb2
    rw [hk] at hk2
    go_wp2_with fail
    go_ret
    exact ⟨rfl, HBW.out _ hb2⟩
  have hq1 : ((x.k : Int) == 1) = false := by simp; omega
  have hq2 : ((x.k : Int) == 2) = false := by simp; omega
  have hq4 : ((x.k : Int) == 4) = false := by simp; omega
  have hq5 : ((x.k : Int) == 5) = false := by simp; omega
  have hk0 := HK.out W8 (Below.refl _ _)
  go_wp2_with (first | (refine wpList_load_midG rfl 49 _ rfl a 0 rfl (cl.set 1 (.int .u64 (n : Int))) _ (HX.out _ (Below.refl _ _)) Tryd.underlying49 rfl HIX.out ?_))
  refine (CX.out (by omega) W8 (Below.refl _ _)).mono ?_
  rintro e v1 ⟨rfl, hb1⟩
  have hk1 := HK.out v1 hb1
  go_wp2_with (first | (refine wpList_load_midG rfl 49 _ rfl b 0 rfl (cl.set 37 (.int .u64 (n : Int))) _ (HY.out _ hb1) Tryd.underlying49 rfl HIY.out ?_))
  refine (CY.out (by omega) (by omega) v1 hb1).mono ?_
  rintro e v2 ⟨rfl, hb2⟩
  have hk2 := HK.out v2 hb2
  go_wp2_with (first | (refine wpList_load_midG rfl 49 _ rfl c 0 rfl (cl.set 36 (.slice (some ⟨WS.heap.size, 0, none⟩) 1 1)) _ (HZ.out _ hb2) Tryd.underlying49 rfl HIZ.out ?_))
  refine (CZ.out (by omega) v2 hb2).mono ?_
  rintro e v3 ⟨rfl, hb3⟩
  have hk3 := HK.out v3 hb3
  go_wp2_with fail
  go_ret
  exact ⟨rfl, HBW.out _ hb3⟩
end Go.Proofs.YtaobmaehbkancaaDoor
