/- What WireApart answers. -/
import Derived.Test.YtjpnomkcinfonaaGreatDoorUe
import Derived.Test.YtjpnomkcinfonaaGreatDoorRaRbRcRdReRfRgRhRiRj
import Derived.Test.YtjpnomkcinfonaaGreatDoorNcNdOb
namespace Go.Proofs.YtjpnomkcinfonaaGreatDoor
open Go.Shelf Go.RowKit Go.Lib
set_option linter.unusedVariables false
set_option linter.unusedSimpArgs false
attribute [local go_sem ↓] Go.wp_at_zero Go.wp_at_succ
/-- Two messages with one text are one. -/
theorem one_text (x y : Mg) (hx : OkM x) (hy : OkM y) (h1 : wrOk x = true) (h2 : wrOk y = true) (h : wrS x = wrS y) : x = y := by
  have a := (there_back x hx h1).2
  have b := (there_back y hy h2).2
  rw [← a, ← b, h]
set_option maxRecDepth 100000 in
set_option maxHeartbeats 8000000 in
theorem apart_any (cl cl' : List Value) (D D' : Nat → Prop) (x y : Mg) (w : World) (hD : ∀ b, D b → b < w.heap.size) (hD' : ∀ b, D' b → b < w.heap.size) (hT : Lib.Utf8Tabs 0 1 w) (h2 : 1 < w.heap.size) (hm : MsgIs D w cl.toArray x) (hm' : MsgIs D' w cl'.toArray y) :
    Calls Tryz.prog 5 #[.agg cl.toArray, .agg cl'.toArray] w fun e w' => e = .returned (.bool true) ∧ Below w.heap.size w w' := by
  have hcl : cl.length = 47 := by simpa using hm.size
  have hcl' : cl'.length = 47 := by simpa using hm'.size
  have HOX : Hid (OkM x) := okM_of hm
  have HOY : Hid (OkM y) := okM_of hm'
  obtain ⟨V, hV⟩ : ∃ V, w.alloc (.cells cl.toArray 49) = V := ⟨_, rfl⟩
  obtain ⟨W0, hW0⟩ : ∃ W0, V.alloc (.cells cl'.toArray 49) = W0 := ⟨_, rfl⟩
  have hbV : Below w.heap.size w V := by rw [← hV]; exact (Below.refl _ _).alloc (Nat.le_refl _) _
  have hsV : V.heap.size = w.heap.size + 1 := by rw [← hV]; simp
  have hbW : Below V.heap.size V W0 := by rw [← hW0]; exact (Below.refl _ _).alloc (Nat.le_refl _) _
  have hB0 : Below w.heap.size w W0 := hbV.trans (hbW.mono hbV.size)
  have hs0 : W0.heap.size = w.heap.size + 2 := by rw [← hW0]; simp [hsV]
  have hr0 : W0.rangeAt w.heap.size 0 cl := fun j v hv => by
    rw [hbW.cell (p := ⟨w.heap.size, 0 + j, none⟩) (by show w.heap.size < _; omega), ← hV]
    exact range_new w cl 49 j v hv
  have hr1 : W0.rangeAt (w.heap.size + 1) 0 cl' := by rw [← hW0, ← hsV]; exact range_new V cl' 49
  have HT : Hid (∀ W, Below W0.heap.size W0 W → Lib.Utf8Tabs 0 1 W ∧ 1 < W.heap.size) := fun W hb => ⟨Utf8Tabs.later hT h2 (hB0.trans (hb.mono hB0.size)), Nat.lt_of_lt_of_le h2 (hB0.trans (hb.mono hB0.size)).size⟩
  have HM : Hid (∀ W, Below W0.heap.size W0 W → MsgIs D W cl.toArray x) := fun W hb => hm.keep (fun _ h => h) (Kept.of_below (hB0.trans (hb.mono hB0.size)) hD)
  have HM' : Hid (∀ W, Below W0.heap.size W0 W → MsgIs D' W cl'.toArray y) := fun W hb => hm'.keep (fun _ h => h) (Kept.of_below (hB0.trans (hb.mono hB0.size)) hD')
  have HD : Hid (∀ W, Below W0.heap.size W0 W → ∀ b, D b → b < W.heap.size) := fun W hb b h => Nat.lt_of_lt_of_le (hD b h) (hB0.trans (hb.mono hB0.size)).size
  have HD' : Hid (∀ W, Below W0.heap.size W0 W → ∀ b, D' b → b < W.heap.size) := fun W hb b h => Nat.lt_of_lt_of_le (hD' b h) (hB0.trans (hb.mono hB0.size)).size
  have HI : Hid ((Tryz.prog.info? 49).map (·.size) = some cl.length) := by show _ = _; rw [hcl]; exact size49
  have HI' : Hid ((Tryz.prog.info? 49).map (·.size) = some cl'.length) := by show _ = _; rw [hcl']; exact size49
  have HRM : Hid (∀ W, Below W0.heap.size W0 W → W.rangeAt w.heap.size 0 cl) := fun W hb j v hv => by
    rw [hb.cell (p := ⟨w.heap.size, 0 + j, none⟩) (by show w.heap.size < _; omega)]
    exact hr0 j v hv
  have HRN : Hid (∀ W, Below W0.heap.size W0 W → W.rangeAt (w.heap.size + 1) 0 cl') := fun W hb j v hv => by
    rw [hb.cell (p := ⟨w.heap.size + 1, 0 + j, none⟩) (by show w.heap.size + 1 < _; omega)]
    exact hr1 j v hv
  have C1 : Hid (Calls Tryz.prog 12 #[] W0 fun e w' => e = .returned (.bool true) ∧ Below W0.heap.size W0 w') := lives_any W0 (HT.out W0 (Below.refl _ _)).1 (HT.out W0 (Below.refl _ _)).2
  have HB0 : Hid (Below w.heap.size w W0) := hB0
  have hW1 : (w.alloc (.cells cl.toArray 49)).alloc (.cells cl'.toArray 49) = W0 := by rw [hV]; exact hW0
  clear hD hD' hT h2 hm hm' hB0 hs0 hr0 hr1 hcl hcl' hV hW0 hbV hsV hbW
  go_enter Tryz.func5, Tryz.ntmps5
  go_wp2_with fail
  refine C1.out.mono ?_
  rintro e w1 ⟨rfl, hb1⟩
  have HB1 : Hid (Below W0.heap.size W0 w1) := hb1
  have C2 : Hid (Calls Tryz.prog 8 #[.agg cl.toArray] w1 fun e w' => e = .returned (.tuple #[.string (wrS x), .int .i64 (wrE x)]) ∧ Below w1.heap.size w1 w') := write_any cl.toArray D x w1 (HD.out w1 hb1) (HT.out w1 hb1).1 (HT.out w1 hb1).2 (HM.out w1 hb1)
  clear C1 hb1
  go_wp2_with (refine wpList_load_mid rfl 49 _ rfl w.heap.size 0 rfl cl _ (HRM.out _ HB1.out) Tryz.underlying49 rfl HI.out ?_)
  refine C2.out.mono ?_
  rintro e w2 ⟨rfl, hb2⟩
  have HB2 : Hid (Below W0.heap.size W0 w2) := HB1.out.trans (hb2.mono HB1.out.size)
  have C3 : Hid (Calls Tryz.prog 8 #[.agg cl'.toArray] w2 fun e w' => e = .returned (.tuple #[.string (wrS y), .int .i64 (wrE y)]) ∧ Below w2.heap.size w2 w') := write_any cl'.toArray D' y w2 (HD'.out w2 HB2.out) (HT.out w2 HB2.out).1 (HT.out w2 HB2.out).2 (HM'.out w2 HB2.out)
  clear C2 hb2
  go_wp2_with (refine wpList_load_mid rfl 49 _ rfl (w.heap.size + 1) 0 rfl cl' _ (HRN.out _ HB2.out) Tryz.underlying49 rfl HI'.out ?_)
  refine C3.out.mono ?_
  rintro e w3 ⟨rfl, hb3⟩
  have HB3 : Hid (Below W0.heap.size W0 w3) := HB2.out.trans (hb3.mono HB2.out.size)
  clear C3 hb3
  cases hx : wrOk x with
  | false =>
    have e1 : wrE x = 11 := by unfold wrE; rw [hx]; rfl
    rw [e1]
    clear hx e1
    go_wp2_with fail
    go_ret
    exact ⟨rfl, HB0.out.trans (HB3.out.mono HB0.out.size)⟩
  | true =>
    have e1 : wrE x = 0 := by unfold wrE; rw [hx]; rfl
    rw [e1]
    clear e1
    cases hy : wrOk y with
    | false =>
      have e2 : wrE y = 11 := by unfold wrE; rw [hy]; rfl
      rw [e2]
      clear hx hy e2
      go_wp2_with fail
      go_ret
      exact ⟨rfl, HB0.out.trans (HB3.out.mono HB0.out.size)⟩
    | true =>
      have e2 : wrE y = 0 := by unfold wrE; rw [hy]; rfl
      rw [e2]
      clear e2
      by_cases hxy : x = y
      · subst hxy
        have CS : Hid (Calls Tryz.prog 13 #[.agg cl.toArray, .agg cl'.toArray] w3 fun e w' => e = .returned (.bool true) ∧ Below w3.heap.size w3 w') := same_eq cl.toArray cl'.toArray x D D' w3 (HM.out w3 HB3.out) (HM'.out w3 HB3.out) (HD.out w3 HB3.out) (HD'.out w3 HB3.out)
        generalize wrS x = t
        have tt : (t.toList == t.toList) = true := by simp
        clear hx hy
        go_wp2_with (first | (refine wpList_load_mid rfl 49 _ rfl w.heap.size 0 rfl cl _ (HRM.out _ HB3.out) Tryz.underlying49 rfl HI.out ?_) | (refine wpList_load_mid rfl 49 _ rfl (w.heap.size + 1) 0 rfl cl' _ (HRN.out _ HB3.out) Tryz.underlying49 rfl HI'.out ?_))
        refine CS.out.mono ?_
        rintro e w4 ⟨rfl, hb4⟩
        have HB4 : Hid (Below W0.heap.size W0 w4) := HB3.out.trans (hb4.mono HB3.out.size)
        clear hb4 CS
        go_wp2_with fail
        go_ret
        exact ⟨rfl, HB0.out.trans (HB4.out.mono HB0.out.size)⟩
      · have hst : ¬ wrS x = wrS y := fun e => hxy (one_text x y HOX.out HOY.out hx hy e)
        have CS : Hid (Calls Tryz.prog 13 #[.agg cl.toArray, .agg cl'.toArray] w3 fun e w' => e = .returned (.bool false) ∧ Below w3.heap.size w3 w') := (same_snd cl.toArray cl'.toArray x y D D' w3 (HM.out w3 HB3.out) (HM'.out w3 HB3.out) (HD.out w3 HB3.out) (HD'.out w3 HB3.out)).mono (fun _ _ hh => hh.false hxy)
        obtain ⟨t, ht⟩ : ∃ t, wrS x = t := ⟨_, rfl⟩
        obtain ⟨u, hu⟩ : ∃ u, wrS y = u := ⟨_, rfl⟩
        rw [ht, hu] at hst
        rw [ht, hu]
        have tn := bytes_ne hst
        have tt : (t.toList == u.toList) = false := by simpa using tn
        clear hx hy hxy hst ht hu
        go_wp2_with (first | (refine wpList_load_mid rfl 49 _ rfl w.heap.size 0 rfl cl _ (HRM.out _ HB3.out) Tryz.underlying49 rfl HI.out ?_) | (refine wpList_load_mid rfl 49 _ rfl (w.heap.size + 1) 0 rfl cl' _ (HRN.out _ HB3.out) Tryz.underlying49 rfl HI'.out ?_))
        refine CS.out.mono ?_
        rintro e w4 ⟨rfl, hb4⟩
        have HB4 : Hid (Below W0.heap.size W0 w4) := HB3.out.trans (hb4.mono HB3.out.size)
        clear hb4 CS
        go_wp2_with fail
        go_ret
        exact ⟨rfl, HB0.out.trans (HB4.out.mono HB0.out.size)⟩
end Go.Proofs.YtjpnomkcinfonaaGreatDoor
