/- How items are written. -/
import Derived.Test.YtnmmojhbcnlboaaGreatDoorRe
namespace Go.Proofs.YtnmmojhbcnlboaaGreatDoor
open Go.Shelf Go.RowKit Go.Lib Go.Sort
set_option linter.unusedVariables false
set_option linter.unusedSimpArgs false
attribute [local go_sem ↓] Go.wp_at_zero Go.wp_at_succ
def writeItemP (x : Itm) : List UInt8 := if x.g = 0 then exprP x.e else if x.g = 1 then bracketsP (aggTextP 1) [] else bracketsP (aggTextP x.g) [exprP x.e]
theorem one_text (X : World) (T : List UInt8) (S : ByteArray) (hS : (⟨T.toArray⟩ : ByteArray) = S) (hT : T.length ≤ 1000000000) : ListIs rTxt 1 16 (fun b => b = X.heap.size) (X.alloc (.cells #[.string S] 9)) (.slice (some ⟨X.heap.size, 0, none⟩) [T].length 1) [T] := by
  refine ⟨_, _, rfl, ⟨by simp, by simp⟩, fun _ => ⟨X.heap.size, 0, rfl, rfl, fun j hj => ?_⟩⟩
  have e : j = 0 := by simpa using hj
  subst e
  refine ⟨[.string S], rfl, fun i u hu => ?_, ⟨by rw [← hS]; rfl, hT⟩⟩
  simp only [Nat.zero_mul, Nat.zero_add]
  exact cell_of_row (heap_alloc_new X _) (by simpa using hu)
set_option maxRecDepth 100000 in
set_option maxHeartbeats 8000000 in
theorem writeItem_any (K : Nat → Prop) (x : Itm) (p : Option Addr) (c : Nat) (w : World) (h : ListIs rStp 3 32 K w (.slice p x.e.length c) x.e) (hK : ∀ b, K b → b < w.heap.size) (hG : GW w) (hG2 : Glob2 w) (hx : itemOkP x = true) :
    Calls Tryz.prog 35 #[.agg #[.int .u8 (x.g : Int), .slice p x.e.length c]] w fun e w' => (e = .returned (.string ⟨(writeItemP x).toArray⟩) ∧ (writeItemP x).length ≤ 30000000) ∧ Below w.heap.size w w' := by
  obtain ⟨W0, hW0⟩ : ∃ W0, w.alloc (.cells #[.int .u8 (x.g : Int), .slice p x.e.length c] 45) = W0 := ⟨_, rfl⟩
  have hb0 : Below w.heap.size w W0 := by rw [← hW0]; exact below_alloc _ _
  have hg0 : W0.heap[w.heap.size]? = some (.cells #[.int .u8 (x.g : Int), .slice p x.e.length c] 45 (0, 0)) := by rw [← hW0]; exact heap_alloc_new w _
  have hl0 : w.heap.size < W0.heap.size := (Array.getElem?_eq_some_iff.1 hg0).1
  have c0 := cell_of_row (k := 0) (v := .int .u8 (x.g : Int)) hg0 rfl
  have c1 := cell_of_row (k := 1) (v := .slice p x.e.length c) hg0 rfl
  have HB := hid hb0
  have CE : Hid (rightP x.e = true → ∀ V, Below W0.heap.size W0 V → Calls Tryz.prog 16 #[.slice p x.e.length c] V fun e w' => (e = .returned (.string ⟨(exprP x.e).toArray⟩) ∧ (exprP x.e).length ≤ 20000000) ∧ Below V.heap.size V w') := fun hr V hb =>
    have hbw := hb0.trans (hb.mono hb0.size)
    writeExpr_any K p c x.e V (h.mono mStp (fun _ h => h) (kept_of hK hbw)) (fun b h => Nat.lt_of_lt_of_le (hK b h) hbw.size) (hG.below hbw) (hG2.below hbw) hr
  have CA : Hid (∀ V, Below W0.heap.size W0 V → Calls Tryz.prog 50 #[.int .u8 (x.g : Int)] V fun e w' => e = .returned (.string ⟨(aggTextP x.g).toArray⟩) ∧ Below V.heap.size V w') := fun V hb => aggText_any x.g V (hG.below (hb0.trans (hb.mono hb0.size))).1
  obtain ⟨R, hR⟩ : ∃ R, writeItemP x = R := ⟨_, rfl⟩
  have HR : Hid ((if x.g = 0 then exprP x.e else if x.g = 1 then bracketsP (aggTextP 1) [] else bracketsP (aggTextP x.g) [exprP x.e]) = R) := hR
  have HX : Hid ((if x.g = 1 then decide (x.e = []) else decide (x.g < 5) && rightP x.e) = true) := hx
  have HS : Hid (∀ V, Below W0.heap.size W0 V → V.cell? ⟨w.heap.size, 0, none⟩ = some (.int .u8 (x.g : Int)) ∧ V.cell? ⟨w.heap.size, 1, none⟩ = some (.slice p x.e.length c)) := fun V hb => ⟨(hb.cell (p := ⟨w.heap.size, 0, none⟩) hl0).trans c0, (hb.cell (p := ⟨w.heap.size, 1, none⟩) hl0).trans c1⟩
  rw [hR]
  obtain ⟨m, hm⟩ : ∃ m, x.e.length = m := ⟨_, rfl⟩
  obtain ⟨g, hgk⟩ : ∃ g, x.g = g := ⟨_, rfl⟩
  rw [hm] at hW0 c1 CE HS ⊢
  rw [hgk] at hW0 c0 CA HR HX HS ⊢
  clear h hK hG hG2 hx hb0 hg0 hl0 hR hm hgk
  by_cases h0 : g = 0
  · have y0 : ((g : Int) == 0) = true := by simp [h0]
    have hr : rightP x.e = true := by have := HX.out; rw [if_neg (by omega)] at this; simp at this; exact this.2
    have hER : exprP x.e = R := by have := HR.out; rw [if_pos h0] at this; exact this
    have C := CE.out hr W0 (Below.refl _ _)
    rw [hER] at C
    have C := hid C
    clear CE CA HR HX HS hr hER h0
    go_enter Tryz.func35, Tryz.ntmps35
    go_wp2_with fail
    refine C.out.mono ?_
    rintro e w1 ⟨⟨rfl, hlen⟩, hb1⟩
    have HF : Hid (R.length ≤ 30000000 ∧ Below w.heap.size w w1) := ⟨by omega, HB.out.trans (hb1.mono HB.out.size)⟩
    clear C hb1 hlen hW0
    go_wp2_with fail
    go_ret
    exact ⟨⟨rfl, HF.out.1⟩, HF.out.2⟩
  · have y0 : ((g : Int) == 0) = false := beq_eq_false_iff_ne.2 (by omega)
    by_cases h1 : g = 1
    · have y1 : ((g : Int) == 1) = true := by simp [h1]
      have hER : bracketsP (aggTextP 1) [] = R := by have := HR.out; rw [if_neg h0, if_pos h1] at this; exact this
      have C1 := CA.out W0 (Below.refl _ _)
      obtain ⟨A, hA⟩ : ∃ A : ByteArray, (⟨(aggTextP g).toArray⟩ : ByteArray) = A := ⟨_, rfl⟩
      have C2 : Hid (∀ V : World, Calls Tryz.prog 15 #[.string A, .slice none 0 0] V fun e w' => e = .returned (.string ⟨R.toArray⟩) ∧ Below V.heap.size V w') := fun V => by
        have := brackets_any (fun _ => False) (aggTextP 1) none 0 [] V ⟨none, 0, rfl, ⟨by simp, by simp⟩, fun h => absurd h (by simp)⟩ (fun b h => h.elim) (by simp) (by have := aggTextP_len 1; omega)
        rw [hER, ← h1, hA] at this
        exact this
      rw [hA] at C1
      have C1 := hid C1
      have HLN : Hid (R.length ≤ 30000000) := by show _ ≤ _; rw [← hER, bracketsP_len]; have := aggTextP_len 1; simp; omega
      clear CE CA HR HX HS hER h0 h1 hA
      go_enter Tryz.func35, Tryz.ntmps35
      go_wp2_with fail
      refine C1.out.mono ?_
      rintro e w1 ⟨rfl, hb1⟩
      have HB1 : Hid (Below w.heap.size w w1) := HB.out.trans (hb1.mono HB.out.size)
      have C2 := hid (C2.out w1)
      clear C1 hb1 hW0
      go_wp2_with fail
      refine C2.out.mono ?_
      rintro e w2 ⟨rfl, hb2⟩
      have HB2 : Hid (Below w.heap.size w w2) := HB1.out.trans (hb2.mono HB1.out.size)
      clear C2 hb2
      go_wp2_with fail
      go_ret
      exact ⟨⟨rfl, HLN.out⟩, HB2.out⟩
    · have y1 : ((g : Int) == 1) = false := beq_eq_false_iff_ne.2 (by omega)
      have hr : rightP x.e = true := by have := HX.out; rw [if_neg h1] at this; simp at this; exact this.2
      have hER : bracketsP (aggTextP g) [exprP x.e] = R := by have := HR.out; rw [if_neg h0, if_neg h1] at this; exact this
      obtain ⟨A, hA⟩ : ∃ A : ByteArray, (⟨(aggTextP g).toArray⟩ : ByteArray) = A := ⟨_, rfl⟩
      obtain ⟨T, hT⟩ : ∃ T, exprP x.e = T := ⟨_, rfl⟩
      obtain ⟨S, hS⟩ : ∃ S : ByteArray, (⟨T.toArray⟩ : ByteArray) = S := ⟨_, rfl⟩
      obtain ⟨D, hD⟩ : ∃ D, W0.drew = D := ⟨_, rfl⟩
      have hbD : Below W0.heap.size W0 D := by rw [← hD]; exact (Below.refl _ _).drew
      have hCA := CA.out D hbD
      rw [hA] at hCA
      have CA := hid hCA
      have hCE := CE.out hr
      rw [hT, hS] at hCE
      have CE := hid hCE
      have CB : Hid (T.length ≤ 20000000 → ∀ V : World, Calls Tryz.prog 15 #[.string A, .slice (some ⟨V.heap.size, 0, none⟩) 1 1] (V.alloc (.cells #[.string S] 9)) fun e w' => e = .returned (.string ⟨R.toArray⟩) ∧ Below (V.alloc (.cells #[.string S] 9)).heap.size (V.alloc (.cells #[.string S] 9)) w') := fun hl V => by
        have := brackets_any _ (aggTextP g) (some ⟨V.heap.size, 0, none⟩) 1 [T] (V.alloc (.cells #[.string S] 9)) (one_text V T S hS (by omega)) (fun b h => by rw [h]; simp) (by simp) (by have := aggTextP_len g; omega)
        rw [hA, ← hT, hER] at this
        exact this
      have HLN : Hid (T.length ≤ 20000000 → R.length ≤ 30000000) := fun hl => by rw [← hER, bracketsP_len, hT]; have := aggTextP_len g; simp; omega
      have HBD := hid hbD
      have HSD := hid (HS.out D hbD)
      clear HR HX hr hER h0 h1 hA hT hS hbD hCA hCE
      go_enter Tryz.func35, Tryz.ntmps35
      go_wp2_with fail
      refine wp_region_held_drew (S := fun V => V.cell? ⟨w.heap.size, 0, none⟩ = some (.int .u8 (g : Int)) ∧ V.cell? ⟨w.heap.size, 1, none⟩ = some (.slice p m c)) (by kernel_rfl) (by rw [hD]; exact HSD.out) (fun hHeld => ?_)
      refine wpAnyH_take (i := 0) (v := .pointer (some ⟨w.heap.size, 0, none⟩)) rfl (by kernel_rfl) (by kernel_rfl) (by kernel_rfl) (fun _ _ _ h => h) (.inl ⟨by rfl, fun W hW => by obtain ⟨h37, h38⟩ := hW; go_simp⟩) hHeld ?_
      simp only [Act.put, List.getElem_toArray, List.getElem_cons_zero, List.getElem_cons_succ, List.setIfInBounds_toArray, List.set_cons_zero, List.set_cons_succ]
      refine wpAnyH_take (i := 1) (v := .int .u8 (g : Int)) rfl (by kernel_rfl) (by kernel_rfl) (by kernel_rfl) (fun _ _ _ h => h) (.inl ⟨by rfl, fun W hW => by obtain ⟨h37, h38⟩ := hW; go_simp⟩) hHeld ?_
      simp only [Act.put, List.getElem_toArray, List.getElem_cons_zero, List.getElem_cons_succ, List.setIfInBounds_toArray, List.set_cons_zero, List.set_cons_succ]
      refine wpAnyH_take (i := 3) (v := .pointer (some ⟨w.heap.size, 1, none⟩)) rfl (by kernel_rfl) (by kernel_rfl) (by kernel_rfl) (fun _ _ _ h => h) (.inl ⟨by rfl, fun W hW => by obtain ⟨h37, h38⟩ := hW; go_simp⟩) hHeld ?_
      simp only [Act.put, List.getElem_toArray, List.getElem_cons_zero, List.getElem_cons_succ, List.setIfInBounds_toArray, List.set_cons_zero, List.set_cons_succ]
      refine wpAnyH_take (i := 4) (v := .slice p m c) rfl (by kernel_rfl) (by kernel_rfl) (by kernel_rfl) (fun _ _ _ h => h) (.inl ⟨by rfl, fun W hW => by obtain ⟨h37, h38⟩ := hW; go_simp⟩) hHeld ?_
      simp only [Act.put, List.getElem_toArray, List.getElem_cons_zero, List.getElem_cons_succ, List.setIfInBounds_toArray, List.set_cons_zero, List.set_cons_succ]
      rw [hD] at hHeld ⊢
      clear hD
      refine wpAnyH_ready (rs := [2]) (by kernel_rfl) (by simp) ?_
      refine AllReadyH.cons rfl (fun K' hK => ?_) AllReadyH.nil
      rw [if_pos (by rfl)]
      go_simp
      go_at_call 50
      refine CA.out.mono ?_
      rintro e w1 ⟨rfl, hb1⟩
      have hb1' : Below W0.heap.size W0 w1 := HBD.out.trans (hb1.mono HBD.out.size)
      have C5 := hid (CE.out w1 hb1')
      have HB1 := hid hb1'
      refine hK.out _ _ (HS.out w1 hb1') (fun hHeld => ?_)
      clear hK K' hb1 hb1' CA CE
      refine wpAnyH_ready (rs := [5]) (by kernel_rfl) (by simp) ?_
      refine AllReadyH.cons rfl (fun K' hK => ?_) AllReadyH.nil
      rw [if_pos (by rfl)]
      go_simp
      go_at_call 16
      refine C5.out.mono ?_
      rintro e w2 ⟨⟨rfl, hlen⟩, hb2⟩
      have hb2' : Below W0.heap.size W0 w2 := HB1.out.trans (hb2.mono HB1.out.size)
      obtain ⟨W3, hW3⟩ : ∃ W3, w2.alloc (.cells #[.string S] 9) = W3 := ⟨_, rfl⟩
      have hb3 : Below W0.heap.size W0 W3 := by rw [← hW3]; exact hb2'.alloc hb2'.size _
      have C7 : Hid (Calls Tryz.prog 15 #[.string A, .slice (some ⟨w2.heap.size, 0, none⟩) 1 1] W3 fun e w' => e = .returned (.string ⟨R.toArray⟩) ∧ Below W3.heap.size W3 w') := by have := CB.out hlen w2; rw [hW3] at this; exact this
      have HLR : Hid (R.length ≤ 30000000) := HLN.out hlen
      have HB3 := hid hb3
      have HS3 := hid (HS.out W3 hb3)
      refine hK.out _ _ (HS.out w2 hb2') (fun hHeld => ?_)
      clear hK K' hb2 hb2' C5 CB HLN hlen hb3
      refine wpAnyH_ready (rs := [6]) (by kernel_rfl) (by simp) ?_
      refine AllReadyH.cons rfl (fun K' hK => ?_) AllReadyH.nil
      rw [if_pos (by rfl)]
      go_simp
      refine hK.out _ _ HS3.out (fun hHeld => ?_)
      clear hK K' hW3
      refine wpAnyH_ready (rs := [7]) (by kernel_rfl) (by simp) ?_
      refine AllReadyH.cons rfl (fun K' hK => ?_) AllReadyH.nil
      rw [if_pos (by rfl)]
      go_simp
      go_at_call 15
      refine C7.out.mono ?_
      rintro e w4 ⟨rfl, hb4⟩
      have hb4' : Below W0.heap.size W0 w4 := HB3.out.trans (hb4.mono HB3.out.size)
      have HB4 : Hid (Below w.heap.size w w4) := HB.out.trans (hb4'.mono HB.out.size)
      refine hK.out _ _ (HS.out w4 hb4') (fun hHeld => ?_)
      clear hK K' hb4 hb4' C7
      refine wpAnyH_ready (rs := [8]) (by kernel_rfl) (by simp) ?_
      refine AllReadyH.cons rfl (fun K' hK => ?_) AllReadyH.nil
      rw [if_pos (by rfl)]
      go_simp
      refine hK.out _ _ hHeld (fun hHeld => ?_)
      clear hK K'
      refine wpAnyH_done (by kernel_rfl) ?_ _
      clear hHeld
      go_wp2_with fail
      go_ret
      exact ⟨⟨rfl, HLR.out⟩, HB4.out⟩
set_option maxRecDepth 100000 in
set_option maxHeartbeats 8000000 in
theorem writeItems_any (K : Nat → Prop) (q : Option Addr) (c : Nat) (l : List Itm) (w : World) (h : ListIs rItm 2 32 K w (.slice q l.length c) l) (hK : ∀ b, K b → b < w.heap.size) (hG : GW w) (hG2 : Glob2 w) (hx : ∀ x ∈ l, itemOkP x = true) (h8 : l.length ≤ 8) :
    Calls Tryz.prog 17 #[.slice q l.length c] w fun e w' => (∃ a cc, e = .returned (.slice a l.length cc) ∧ OwnR rTxt 1 9 w.heap.size w' (.slice a l.length cc) (l.map writeItemP) ∧ ∀ t ∈ l.map writeItemP, t.length ≤ 30000000) ∧ Below w.heap.size w w' := by
  have HL := hid h
  have HK := hid hK
  have HG := hid hG
  have HG2 := hid hG2
  have HX := hid hx
  obtain ⟨i0, hi0, hz0, hz1, hz2⟩ := inE_str
  obtain ⟨N, hN⟩ : ∃ N, l.length = N := ⟨_, rfl⟩
  have HN := hid hN
  rw [hN] at h8 ⊢
  clear h hK hG hG2 hx hN
  go_enter Tryz.func17, Tryz.ntmps17
  go_wp2_with fail
  go_loopg [3, 8] N (fun gf s3 s8 wx => ∃ (i : Nat) (a : Option Addr) (cc : Nat), s3 = .slice a i cc ∧ s8 = .int .i64 i ∧ i ≤ N ∧ N ≤ i + gf ∧ Hid (Below w.heap.size w wx) ∧ Hid (OwnR rTxt 1 9 w.heap.size wx (.slice a i cc) ((l.take i).map writeItemP)) ∧ Hid (∀ t ∈ (l.take i).map writeItemP, t.length ≤ 30000000))
  case atStart => exact ⟨0, none, 0, rfl, rfl, by omega, by omega, Below.refl _ _, OwnR.none (World.ownsRow_nil _ _ _ _), by intro t ht; simp at ht⟩
  case round =>
    obtain ⟨i, a, cc, rfl, rfl, hi1, hgf, HB, HO, HT⟩ := hrel
    by_cases hi : i < N
    · obtain ⟨g', rfl⟩ : ∃ g', gk = g' + 1 := ⟨gk - 1, by omega⟩
      have hil : i < l.length := by rw [HN.out]; exact hi
      have hbw := HB.out
      obtain ⟨b, o, hq, _, hc⟩ := itm_at (HL.out.mono mItm (fun _ h => h) (kept_of HK.out hbw)) (by omega)
      subst hq
      obtain ⟨p, cp, hrg, hli, h256⟩ := hc i hil
      have htk : l.take (i + 1) = l.take i ++ [l[i]] := List.take_succ_eq_append_getElem hil
      have hok := HX.out _ (List.getElem_mem hil)
      obtain ⟨y, hy⟩ : ∃ y, l[i] = y := ⟨_, rfl⟩
      rw [hy] at hrg hli h256 htk hok
      obtain ⟨gi, hgi⟩ : ∃ gi : Int, (y.g : Int) = gi := ⟨_, rfl⟩
      obtain ⟨m, hm⟩ : ∃ m, y.e.length = m := ⟨_, rfl⟩
      rw [hgi, hm] at hrg
      have HRG := hid hrg
      obtain ⟨WA, hWA, hth, W1, hW1, hg1, hb1⟩ := box_two wr 45 (.int .u8 0) (.slice none 0 0) (.int .u8 gi) (.slice p m cp)
      have HTH := hid hth
      have HW1 := hid hW1
      have HON : Hid ((#[.int .u8 gi, .slice p m cp] : Array Value).all (·.oneCell') = true) := by show _ = _; simp [Value.oneCell']
      have HR1 : Hid (W1.rangeAt wr.heap.size 0 [.int .u8 gi, .slice p m cp]) := fun j u hu => by rw [Nat.zero_add]; exact cell_of_row hg1 (by simpa using hu)
      have hbX : Below w.heap.size w W1 := hbw.trans (hb1.mono hbw.size)
      have hKW : ∀ b, K b → b < wr.heap.size := fun b hb => Nat.lt_of_lt_of_le (HK.out b hb) hbw.size
      obtain ⟨Y, hY⟩ : ∃ Y, writeItemP y = Y := ⟨_, rfl⟩
      obtain ⟨S, hS⟩ : ∃ S : ByteArray, (⟨Y.toArray⟩ : ByteArray) = S := ⟨_, rfl⟩
      have C : Hid (Calls Tryz.prog 35 #[.agg #[.int .u8 gi, .slice p m cp]] W1 fun e w' => (e = .returned (.string S) ∧ Y.length ≤ 30000000) ∧ Below W1.heap.size W1 w') := by have := writeItem_any K y p cp W1 (hli.mono mStp (fun _ h => h) (kept_of hKW hb1)) (fun b hb => Nat.lt_of_lt_of_le (hKW b hb) hb1.size) (HG.out.below hbX) (HG2.out.below hbX) hok; rw [hgi, hm, hY, hS] at this; exact this
      have HBX := hid hbX
      have HO1 := hid (HO.out.keep mTxt hb1)
      have HTK := hid (And.intro htk (And.intro hY hS))
      have hfl := (ownForm HO.out).1
      have HFL := hid hfl
      have z0 : (0 : Int) ≤ (i : Int) := by omega
      have z1 : (i : Int) < (N : Int) := by omega
      clear hc hrg hli h256 htk hok hy hgi hm hth hW1 hg1 hb1 hbw hbX hKW hY hS HB HO hil hfl
      go_wp2_with (first | (refine wpList_load_mid rfl 45 _ rfl b (o + i * 2) rfl _ _ HRG.out Tryz.underlying45 rfl sz_item ?_) | (refine wpList_store_mid rfl 45 _ _ rfl wr.heap.size 0 #[.int .u8 gi, .slice p m cp] rfl rfl HTH.out sz_item HON.out ?_; rw [show WA.setCells wr.heap.size 0 (#[.int .u8 gi, .slice p m cp] : Array Value).toList = W1 from HW1.out]) | (refine wpList_load_mid rfl 45 _ rfl wr.heap.size 0 rfl _ _ HR1.out Tryz.underlying45 rfl sz_item ?_))
      refine C.out.mono ?_
      rintro e w2 ⟨⟨rfl, hlen⟩, hb2⟩
      have HB2 : Hid (Below w.heap.size w w2) := HBX.out.trans (hb2.mono HBX.out.size)
      have hO2 := HO1.out.keep mTxt hb2
      have hln : ((l.take i).map writeItemP).length = i := HFL.out.symm
      obtain ⟨v', X2, e2, ho2, hB2, hs2, hk2⟩ := hO2.push mTxt (bytes := 16) (ts := 24) Tryz.underlying24 hi0 hz0 hz1 hz2 rfl (by omega) (by have := HB2.out.size; omega) (x := Y) (cs := [.string S]) (K2 := fun _ => False) rfl (by intro c hc; simp at hc; subst hc; rfl) (fun b hb => hb.elim) ⟨by rw [← HTK.out.2.2], by omega⟩ (by rw [hln]; omega) (by rw [hln]; unfold maxLen; omega)
      have HB5 : Hid (Below w.heap.size w X2) := hB2 _ _ HB2.out (Nat.le_refl _)
      have happ : (l.take (i + 1)).map writeItemP = (l.take i).map writeItemP ++ [Y] := by rw [HTK.out.1, List.map_append, ← HTK.out.2.1]; rfl
      obtain ⟨a', cc', ev⟩ := ho2.slice
      rw [List.length_append, hln] at ev
      have ev2 : v' = .slice a' (i + 1) cc' := ev
      subst ev2
      have HO5 : Hid (OwnR rTxt 1 9 w.heap.size X2 (.slice a' (i + 1) cc') ((l.take (i + 1)).map writeItemP)) := by show OwnR _ _ _ _ _ _ _; rw [happ]; exact ho2
      have HT5 : Hid (∀ t ∈ (l.take (i + 1)).map writeItemP, t.length ≤ 30000000) := by
        show ∀ t ∈ _, _
        rw [happ]
        intro t ht
        rcases List.mem_append.1 ht with h1 | h1
        · exact HT.out t h1
        · rw [List.mem_singleton.1 h1]; exact hlen
      clear C hb2 hO2 hln ho2 hB2 hs2 hk2 happ ev hlen HRG HTH HW1 HON HR1 hWA HO1 HT HTK HB2 HBX HFL
      go_wp2_with (at_builtin; refine Lib.wpList_append_run _ rfl _ _ _ _ rfl (.slice a i cc) (.slice (some ⟨w2.heap.size, 0, none⟩) 1 1) rfl rfl _ _ e2 ?_)
      go_roundg g'
      case measure => omega
      case rel => exact ⟨i + 1, a', cc', rfl, by go_num, by omega, by omega, HB5, HO5, HT5⟩
    · have z1 : ¬ (i : Int) < (N : Int) := by omega
      have htk : l.take i = l := List.take_of_length_le (by rw [HN.out]; omega)
      have hiN : i = N := by omega
      have HO2 : Hid (OwnR rTxt 1 9 w.heap.size wr (.slice a i cc) (l.map writeItemP)) := by have := HO.out; rw [htk] at this; exact this
      have HT2 : Hid (∀ t ∈ l.map writeItemP, t.length ≤ 30000000) := by have := HT.out; rw [htk] at this; exact this
      subst hiN
      clear htk HO HT
      go_wp2_with fail
      go_ret
      exact ⟨⟨a, cc, rfl, HO2.out, by intro x hx; exact HT2.out _ (List.mem_map.2 ⟨x, hx, rfl⟩)⟩, HB.out⟩
end Go.Proofs.YtnmmojhbcnlboaaGreatDoor
