/- What WireCut answers. -/
import Derived.Test.YtaobmaehbkancaaDoorRaRbRcRdRe
import Derived.Test.YtaobmaehbkancaaDoorNcNd
import Derived.Test.YtaobmaehbkancaaDoorObOc
namespace Go.Proofs.YtaobmaehbkancaaDoor
open Go.Shelf Go.RowKit Go.Lib
set_option linter.unusedVariables false
set_option linter.unusedSimpArgs false
attribute [local go_sem ↓] Go.wp_at_zero Go.wp_at_succ
theorem read_any (s : ByteArray) (w : World) (hT : Lib.Utf8Tabs 0 1 w) (h2 : 1 < w.heap.size) : Calls Tryd.prog 7 #[.string s] w fun e w' => ∃ cl : List Value, e = .returned (.tuple #[.agg cl.toArray, .int .i64 (rdE s)]) ∧ cl.length = 47 ∧ cl.toArray.all (·.oneCell') = true ∧ Below w.heap.size w w' := by
  by_cases hs : 65536 < s.size
  · refine (read_long s w hs).mono ?_
    rintro e w' ⟨cl, N, rfl, h1, h2, h3, h4⟩
    exact ⟨cl, rfl, h1, msg_one h3, h4⟩
  · refine (read_short s w (by omega) hT h2).mono ?_
    rintro e w' ⟨cl, N, rfl, h1, h2, h3, h4⟩
    exact ⟨cl, rfl, h1, msg_one h3, h4⟩
theorem not_nil {m : ByteArray} (h : ¬ m.size = 0) : m.toList.isEmpty = false := by
  rw [Lib.toList_data]
  cases hl : m.data.toList with
  | nil =>
    have : m.data.toList.length = 0 := by rw [hl]; rfl
    exact absurd (by simpa using this) h
  | cons a l => rfl
theorem wrS_len {x : Mg} (h : wrE x = 0) : (wrS x).size ≤ 65536 := by
  have hw : wrOk x = true := by
    cases hs : wrOk x with
    | true => rfl
    | false => unfold wrE at h; rw [hs] at h; simp at h
  unfold wrS
  rw [hw]
  have hf : failedP (wr1 x).2 = false := by
    unfold wrOk at hw
    simp at hw
    exact hw.1
  have hl := failedP_len hf
  show ((wr1 x).2.bytes.toArray).size ≤ _
  generalize (wr1 x).2 = st at hl
  cases st using St.three with
  | wr b f => simpa [St.bytes, St.len] using hl
  | bl f => simp [St.bytes]
  | rd r f => simp [St.bytes]
set_option maxRecDepth 100000 in
set_option maxHeartbeats 8000000 in
theorem cut_any (cl : List Value) (D : Nat → Prop) (x : Mg) (cut : Int) (more : ByteArray) (w : World) (hD : ∀ b, D b → b < w.heap.size) (hT : Lib.Utf8Tabs 0 1 w) (h2 : 1 < w.heap.size) (hm : MsgIs D w cl.toArray x) (hc : I64 cut) (hs : more.size ≤ 140737488351232) :
    Calls Tryd.prog 3 #[.agg cl.toArray, .int .i64 cut, .string more] w fun e w' => e = .returned (.bool true) ∧ Below w.heap.size w w' := by
  have hcl : cl.length = 47 := by simpa using hm.size
  have hok : OkM x := okM_of hm
  obtain ⟨W0, hW0⟩ : ∃ W0, w.alloc (.cells cl.toArray 49) = W0 := ⟨_, rfl⟩
  have hB0 : Below w.heap.size w W0 := by rw [← hW0]; exact (Below.refl _ _).alloc (Nat.le_refl _) _
  have hs0 : W0.heap.size = w.heap.size + 1 := by rw [← hW0]; simp
  have hr0 : W0.rangeAt w.heap.size 0 cl := by rw [← hW0]; exact range_new w cl 49
  have HT : Hid (∀ W, Below w.heap.size w W → Lib.Utf8Tabs 0 1 W ∧ 1 < W.heap.size) := fun W hb => ⟨Utf8Tabs.later hT h2 hb, Nat.lt_of_lt_of_le h2 hb.size⟩
  have HM : Hid (∀ W, Below w.heap.size w W → MsgIs D W cl.toArray x) := fun W hb => hm.keep (fun _ h => h) (Kept.of_below hb hD)
  have HD : Hid (∀ b, D b → b < w.heap.size) := hD
  have HI : Hid ((Tryd.prog.info? 49).map (·.size) = some cl.length) := by show _ = _; rw [hcl]; exact size49
  have HOK : Hid (OkM x) := hok
  have C1 : Hid (Calls Tryd.prog 5 #[] W0 fun e w' => e = .returned (.bool true) ∧ Below W0.heap.size W0 w') := lives_any W0 (HT.out W0 hB0).1 (HT.out W0 hB0).2
  have HB0 : Hid (Below w.heap.size w W0) := hB0
  have HS0 : Hid (W0.heap.size = w.heap.size + 1) := hs0
  have HR0 : Hid (W0.rangeAt w.heap.size 0 cl) := hr0
  clear hD hT h2 hm hB0 hs0 hr0 hcl hok
  go_enter Tryd.func3, Tryd.ntmps3
  go_wp2_with fail
  refine C1.out.mono ?_
  rintro e w1 ⟨rfl, hb1⟩
  have hB1 : Below w.heap.size w w1 := HB0.out.trans (hb1.mono HB0.out.size)
  have HR1 : Hid (∀ W, Below w1.heap.size w1 W → W.rangeAt w.heap.size 0 cl) := fun W hb j v hv => by
    have hl1 : w.heap.size < W0.heap.size := by have := HS0.out; omega
    rw [(hb1.trans (hb.mono hb1.size)).cell (p := ⟨w.heap.size, 0 + j, none⟩) hl1]
    exact HR0.out j v hv
  have C2 : Hid (Calls Tryd.prog 6 #[.agg cl.toArray] w1 fun e w' => e = .returned (.tuple #[.string (wrS x), .int .i64 (wrE x)]) ∧ Below w1.heap.size w1 w') := write_any cl.toArray D x w1 (fun b hb => Nat.lt_of_lt_of_le (HD.out b hb) hB1.size) (HT.out w1 hB1).1 (HT.out w1 hB1).2 (HM.out w1 hB1)
  have HB1 : Hid (Below w.heap.size w w1) := hB1
  clear C1 hb1 hB1
  go_wp2_with (first | (refine wpList_load_mid rfl 49 _ rfl w.heap.size 0 rfl cl _ (HR1.out _ (Below.refl _ _)) Tryd.underlying49 rfl HI.out ?_))
  refine C2.out.mono ?_
  rintro e w2 ⟨rfl, hb2⟩
  have HB2 : Hid (Below w.heap.size w w2) := HB1.out.trans (hb2.mono HB1.out.size)
  clear C2 hb2
  by_cases h0 : wrE x = 0
  · have hsl := wrS_len h0
    have HCT : Hid (∀ k, k < (wrS x).size → rdE ((wrS x).extract 0 k) = 11) := fun k hk => cut_bad x HOK.out h0 k hk
    have HMO : Hid (rdE (wrS x ++ more) = if more.size = 0 then 0 else 11) := more_bad x HOK.out h0 more
    have CR : Hid (∀ t W, Below w.heap.size w W → Calls Tryd.prog 7 #[.string t] W fun e w' => ∃ cl : List Value, e = .returned (.tuple #[.agg cl.toArray, .int .i64 (rdE t)]) ∧ cl.length = 47 ∧ cl.toArray.all (·.oneCell') = true ∧ Below w.heap.size w w') := fun t W hb => by
      refine (read_any t W (HT.out W hb).1 (HT.out W hb).2).mono ?_
      rintro e w' ⟨cl, h1, h2, h3, h4⟩
      exact ⟨cl, h1, h2, h3, hb.trans (h4.mono hb.size)⟩
    rw [h0]
    generalize wrS x = s at hsl HCT HMO ⊢
    clear h0 HOK HM HD HI HR1 HR0 HS0 HB0 HB1 HT
    by_cases hcut : 0 ≤ cut ∧ cut < (s.size : Int)
    · obtain ⟨k, rfl⟩ : ∃ k : Nat, cut = (k : Int) := ⟨cut.toNat, by omega⟩
      have hk : k < s.size := by omega
      have k1 : (0 : Int) ≤ (k : Int) := by omega
      have k2 : (k : Int) < (s.size : Int) := hcut.2
      have k3 : (k : Int) ≤ (s.size : Int) := by omega
      have CC := CR.out (s.extract 0 k) w2 HB2.out
      rw [HCT.out k hk] at CC
      clear hcut
      go_wp2_with fail
      refine CC.mono ?_
      rintro e w3 ⟨cl3, rfl, hl3, hone3, hb3⟩
      obtain ⟨WA, hWA, hth3, WS, hWS, hrs, hss, hbs⟩ := new_box w3 cl3 hl3
      have HTH3 : Hid (WA.there w3.heap.size 0 cl3.toArray.size) := hth3
      have HWS : Hid (WA.setCells w3.heap.size 0 cl3.toArray.toList = WS) := hWS
      have HI3 : Hid ((Tryd.prog.info? 49).map (·.size) = some cl3.toArray.size) := by show _ = _; rw [show cl3.toArray.size = 47 by simpa using hl3]; exact size49
      have HON3 : Hid (cl3.toArray.all (·.oneCell') = true) := hone3
      have HB3 : Hid (Below w.heap.size w WS) := hb3.trans (hbs.mono hb3.size)
      clear CC hth3 hWS hrs hss hbs hone3 hb3
      unfold zc at hWA
      go_wp2_with (refine wpList_store_mid rfl 49 _ _ rfl w3.heap.size 0 cl3.toArray rfl rfl HTH3.out HI3.out HON3.out ?_; rw [HWS.out])
      have CM := CR.out (s ++ more) WS HB3.out
      refine CM.mono ?_
      rintro e w5 ⟨cl5, rfl, hl5, hone5, hb5⟩
      obtain ⟨WB, hWB, hth5, WT, hWT, hrt, hst, hbt⟩ := new_box w5 cl5 hl5
      have HTH5 : Hid (WB.there w5.heap.size 0 cl5.toArray.size) := hth5
      have HWT : Hid (WB.setCells w5.heap.size 0 cl5.toArray.toList = WT) := hWT
      have HI5 : Hid ((Tryd.prog.info? 49).map (·.size) = some cl5.toArray.size) := by show _ = _; rw [show cl5.toArray.size = 47 by simpa using hl5]; exact size49
      have HON5 : Hid (cl5.toArray.all (·.oneCell') = true) := hone5
      have HBT : Hid (Below w.heap.size w WT) := hb5.trans (hbt.mono hb5.size)
      clear CM hth5 hWT hrt hst hbt hone5 hb5
      unfold zc at hWB
      rw [HMO.out]
      by_cases hm0 : more.size = 0
      · have hm1 : more = ⟨#[]⟩ := ba_ext (Array.eq_empty_of_size_eq_zero hm0)
        rw [if_pos hm0]
        subst hm1
        go_wp2_with (refine wpList_store_mid rfl 49 _ _ rfl w5.heap.size 0 cl5.toArray rfl rfl HTH5.out HI5.out HON5.out ?_; rw [HWT.out])
        all_goals first | (go_ret; exact ⟨rfl, HBT.out⟩) | (simp at *; done)
      · have hm1 : more.toList.isEmpty = false := not_nil hm0
        rw [if_neg hm0]
        go_wp2_with (refine wpList_store_mid rfl 49 _ _ rfl w5.heap.size 0 cl5.toArray rfl rfl HTH5.out HI5.out HON5.out ?_; rw [HWT.out])
        all_goals first | (go_ret; exact ⟨rfl, HBT.out⟩) | (simp at *; done)
    · by_cases hc0 : 0 ≤ cut
      · have hc1 : ¬ cut < (s.size : Int) := fun h => hcut ⟨hc0, h⟩
        clear hcut
        have CM := CR.out (s ++ more) w2 HB2.out
        go_wp2_with fail
        refine CM.mono ?_
        rintro e w5 ⟨cl5, rfl, hl5, hone5, hb5⟩
        obtain ⟨WB, hWB, hth5, WT, hWT, hrt, hst, hbt⟩ := new_box w5 cl5 hl5
        have HTH5 : Hid (WB.there w5.heap.size 0 cl5.toArray.size) := hth5
        have HWT : Hid (WB.setCells w5.heap.size 0 cl5.toArray.toList = WT) := hWT
        have HI5 : Hid ((Tryd.prog.info? 49).map (·.size) = some cl5.toArray.size) := by show _ = _; rw [show cl5.toArray.size = 47 by simpa using hl5]; exact size49
        have HON5 : Hid (cl5.toArray.all (·.oneCell') = true) := hone5
        have HBT : Hid (Below w.heap.size w WT) := hb5.trans (hbt.mono hb5.size)
        clear CM hth5 hWT hrt hst hbt hone5 hb5
        unfold zc at hWB
        rw [HMO.out]
        by_cases hm0 : more.size = 0
        · have hm1 : more = ⟨#[]⟩ := ba_ext (Array.eq_empty_of_size_eq_zero hm0)
          rw [if_pos hm0]
          subst hm1
          go_wp2_with (refine wpList_store_mid rfl 49 _ _ rfl w5.heap.size 0 cl5.toArray rfl rfl HTH5.out HI5.out HON5.out ?_; rw [HWT.out])
          all_goals first | (go_ret; exact ⟨rfl, HBT.out⟩) | (simp at *; done)
        · have hm1 : more.toList.isEmpty = false := not_nil hm0
          rw [if_neg hm0]
          go_wp2_with (refine wpList_store_mid rfl 49 _ _ rfl w5.heap.size 0 cl5.toArray rfl rfl HTH5.out HI5.out HON5.out ?_; rw [HWT.out])
          all_goals first | (go_ret; exact ⟨rfl, HBT.out⟩) | (simp at *; done)
      · clear hcut
        have CM := CR.out (s ++ more) w2 HB2.out
        go_wp2_with fail
        refine CM.mono ?_
        rintro e w5 ⟨cl5, rfl, hl5, hone5, hb5⟩
        obtain ⟨WB, hWB, hth5, WT, hWT, hrt, hst, hbt⟩ := new_box w5 cl5 hl5
        have HTH5 : Hid (WB.there w5.heap.size 0 cl5.toArray.size) := hth5
        have HWT : Hid (WB.setCells w5.heap.size 0 cl5.toArray.toList = WT) := hWT
        have HI5 : Hid ((Tryd.prog.info? 49).map (·.size) = some cl5.toArray.size) := by show _ = _; rw [show cl5.toArray.size = 47 by simpa using hl5]; exact size49
        have HON5 : Hid (cl5.toArray.all (·.oneCell') = true) := hone5
        have HBT : Hid (Below w.heap.size w WT) := hb5.trans (hbt.mono hb5.size)
        clear CM hth5 hWT hrt hst hbt hone5 hb5
        unfold zc at hWB
        rw [HMO.out]
        by_cases hm0 : more.size = 0
        · have hm1 : more = ⟨#[]⟩ := ba_ext (Array.eq_empty_of_size_eq_zero hm0)
          rw [if_pos hm0]
          subst hm1
          go_wp2_with (refine wpList_store_mid rfl 49 _ _ rfl w5.heap.size 0 cl5.toArray rfl rfl HTH5.out HI5.out HON5.out ?_; rw [HWT.out])
          all_goals first | (go_ret; exact ⟨rfl, HBT.out⟩) | (simp at *; done)
        · have hm1 : more.toList.isEmpty = false := not_nil hm0
          rw [if_neg hm0]
          go_wp2_with (refine wpList_store_mid rfl 49 _ _ rfl w5.heap.size 0 cl5.toArray rfl rfl HTH5.out HI5.out HON5.out ?_; rw [HWT.out])
          all_goals first | (go_ret; exact ⟨rfl, HBT.out⟩) | (simp at *; done)
  · have hw2 : (wrE x == 0) = false := by simpa using h0
    have hS : wrS x = ⟨#[]⟩ := by
      unfold wrE at h0
      unfold wrS
      split
      · rename_i h; rw [h] at h0; exact absurd rfl h0
      · rfl
    rw [hS]
    go_wp2_with fail
    all_goals first | (go_ret; exact ⟨rfl, HB2.out⟩) | omega | (simp at *; done)
end Go.Proofs.YtaobmaehbkancaaDoor
