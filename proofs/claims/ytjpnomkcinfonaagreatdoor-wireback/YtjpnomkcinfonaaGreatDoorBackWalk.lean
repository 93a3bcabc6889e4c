/- What WireBack answers. -/
import Derived.Test.YtjpnomkcinfonaaGreatDoorRfRgRhRiRj
import Derived.Test.YtjpnomkcinfonaaGreatDoorSf
import Derived.Test.YtjpnomkcinfonaaGreatDoorNcNdOb
namespace Go.Proofs.YtjpnomkcinfonaaGreatDoor
open Go.Shelf Go.RowKit Go.Lib
set_option linter.unusedVariables false
set_option linter.unusedSimpArgs false
attribute [local go_sem ↓] Go.wp_at_zero Go.wp_at_succ
theorem wpList_load_midG {P : Program} {ops : Array Oper} {rest : List Oper} {op : Oper} {a : Act} {w : World} {Q : Exit → Act → World → Prop} (hw : Region.wanted op (yielded ops a.tmps) = true) (ty : TypeId) (x : Operand) (ho : op.op = .load ty x) (b o : Nat) (hx : a.eval x = .pointer (some ⟨b, o, none⟩)) (cs : List Value) (d : TypeDesc) (hc : w.rangeAt b o cs) (hu : P.underlying ty = some d) (hd : d.isRow = true) (hi : (P.info? ty).map (·.size) = some cs.length) (h : wpList P ops Q rest (a.put op.dst (.agg cs.toArray)) w) : wpList P ops Q (op :: rest) a w :=
  wpList_step fun K hK => by rw [if_pos hw]; exact wp_load_mid ty x ho b o hx cs d hc hu hd hi (hK _ _ h)
set_option maxRecDepth 100000 in
set_option maxHeartbeats 8000000 in
theorem back_any (cl : List Value) (D : Nat → Prop) (x : Mg) (s : ByteArray) (w : World) (hD : ∀ b, D b → b < w.heap.size) (hT : Lib.Utf8Tabs 0 1 w) (h2 : 1 < w.heap.size) (hm : MsgIs D w cl.toArray x) :
    Calls Tryz.prog 4 #[.agg cl.toArray, .string s] w fun e w' => e = .returned (.bool true) ∧ Below w.heap.size w w' := by
  have hcl : cl.length = 47 := by simpa using hm.size
  have hok : OkM x := okM_of hm
  obtain ⟨W0, hW0⟩ : ∃ W0, w.alloc (.cells cl.toArray 49) = W0 := ⟨_, rfl⟩
  have hB0 : Below w.heap.size w W0 := by rw [← hW0]; exact (Below.refl _ _).alloc (Nat.le_refl _) _
  have hs0 : W0.heap.size = w.heap.size + 1 := by rw [← hW0]; simp
  have hr0 : W0.rangeAt w.heap.size 0 cl := by rw [← hW0]; exact range_new w cl 49
  have HT : Hid (∀ W, Below W0.heap.size W0 W → Lib.Utf8Tabs 0 1 W ∧ 1 < W.heap.size) := fun W hb => ⟨Utf8Tabs.later hT h2 (hB0.trans (hb.mono hB0.size)), Nat.lt_of_lt_of_le h2 (hB0.trans (hb.mono hB0.size)).size⟩
  have HM : Hid (∀ W, Below W0.heap.size W0 W → MsgIs D W cl.toArray x) := fun W hb => hm.keep (fun _ h => h) (Kept.of_below (hB0.trans (hb.mono hB0.size)) hD)
  have HD : Hid (∀ W, Below W0.heap.size W0 W → ∀ b, D b → b < W.heap.size) := fun W hb b h => Nat.lt_of_lt_of_le (hD b h) (hB0.trans (hb.mono hB0.size)).size
  have HI : Hid ((Tryz.prog.info? 49).map (·.size) = some cl.length) := by show _ = _; rw [hcl]; exact size49
  have HOK : Hid (OkM x) := hok
  have HRM : Hid (∀ W, Below W0.heap.size W0 W → W.rangeAt w.heap.size 0 cl) := fun W hb j v hv => by
    rw [hb.cell (p := ⟨w.heap.size, 0 + j, none⟩) (by show w.heap.size < _; omega)]
    exact hr0 j v hv
  have C1 : Hid (Calls Tryz.prog 12 #[] W0 fun e w' => e = .returned (.bool true) ∧ Below W0.heap.size W0 w') := lives_any W0 (HT.out W0 (Below.refl _ _)).1 (HT.out W0 (Below.refl _ _)).2
  have CR : Hid (∀ t W, Below W0.heap.size W0 W → Calls Tryz.prog 10 #[.string t] W fun e w' => RdP t W e w') := fun t W hb => by
    by_cases hs : 65536 < t.size
    · exact read_long t W hs
    · exact read_short t W (by omega) (HT.out W hb).1 (HT.out W hb).2
  have HB0 : Hid (Below w.heap.size w W0) := hB0
  clear hD hT h2 hm hB0 hs0 hr0 hcl hok
  go_enter Tryz.func4, Tryz.ntmps4
  go_wp2_with fail
  refine C1.out.mono ?_
  rintro e w1 ⟨rfl, hb1⟩
  have HB1 : Hid (Below W0.heap.size W0 w1) := hb1
  have C2 : Hid (Calls Tryz.prog 8 #[.agg cl.toArray] w1 fun e w' => e = .returned (.tuple #[.string (wrS x), .int .i64 (wrE x)]) ∧ Below w1.heap.size w1 w') := write_any cl.toArray D x w1 (HD.out w1 hb1) (HT.out w1 hb1).1 (HT.out w1 hb1).2 (HM.out w1 hb1)
  clear C1 hb1
  go_wp2_with (first | (refine wpList_load_mid rfl 49 _ rfl w.heap.size 0 rfl cl _ (HRM.out _ HB1.out) Tryz.underlying49 rfl HI.out ?_) | (refine wpList_load_midG rfl 49 _ rfl w.heap.size 0 rfl cl _ (HRM.out _ HB1.out) Tryz.underlying49 rfl HI.out ?_))
  refine C2.out.mono ?_
  rintro e w2 ⟨rfl, hb2⟩
  have HB2 : Hid (Below W0.heap.size W0 w2) := HB1.out.trans (hb2.mono HB1.out.size)
  clear C2 hb2
  cases h0 : wrOk x with
  | true =>
    obtain ⟨y1, y2⟩ := there_back x HOK.out h0
    have hE : rdE (wrS x) = 0 := by unfold rdE; rw [y1, if_pos rfl]
    have hWE : wrE x = 0 := by unfold wrE; rw [h0, if_pos rfl]
    have CA := CR.out (wrS x) w2 HB2.out
    unfold RdP at CA
    rw [hE, y2] at CA
    have CK : Hid (∀ W, Below W0.heap.size W0 W → Calls Tryz.prog 14 #[.agg cl.toArray] W fun e w' => e = .returned (.int .i64 0) ∧ Below W.heap.size W w') := fun W hb => by
      have := check8_any cl D x W (HD.out W hb) (HT.out W hb).1 (HT.out W hb).2 (HM.out W hb)
      rw [hWE] at this
      exact this
    rw [hWE]
    have HBC3 : Hid (Below W0.heap.size W0 w2) := HB2.out
    generalize wrS x = t at CA ⊢
    clear h0 y1 y2 hE hWE
    go_wp2_with fail
    refine CA.mono ?_
    rintro e w3 ⟨cl3, N3, rfl, hl3, hN3, hm3, hbk3⟩
    obtain ⟨WA3, hWA3, hth3, WS3, hWS3, hrs3, hss3, hbs3⟩ := new_box w3 cl3 hl3
    have HTH3 : Hid (WA3.there w3.heap.size 0 cl3.toArray.size) := hth3
    have HWS3 : Hid (WA3.setCells w3.heap.size 0 cl3.toArray.toList = WS3) := hWS3
    have HI3 : Hid ((Tryz.prog.info? 49).map (·.size) = some cl3.toArray.size) := by show _ = _; rw [show cl3.toArray.size = 47 by simpa using hl3]; exact size49
    have HJ3 : Hid ((Tryz.prog.info? 49).map (·.size) = some cl3.length) := by show _ = _; rw [hl3]; exact size49
    have HON3 : Hid (cl3.toArray.all (·.oneCell') = true) := msg_one hm3
    have HBS3 : Hid (Below W0.heap.size W0 WS3) := (HBC3.out.trans (hbk3.mono HBC3.out.size)).trans (hbs3.mono (HBC3.out.trans (hbk3.mono HBC3.out.size)).size)
    have HZ3 : Hid (w3.heap.size < WS3.heap.size) := by show _ < _; rw [hss3]; omega
    have HRS3 : Hid (∀ W, Below WS3.heap.size WS3 W → W.rangeAt w3.heap.size 0 cl3) := fun W hb j v hv => by
      rw [hb.cell (p := ⟨w3.heap.size, 0 + j, none⟩) HZ3.out]
      exact hrs3 j v hv
    have HN3 : Hid (∀ b, N3 b → b < WS3.heap.size) := fun b hb => Nat.lt_of_lt_of_le (hN3 b hb).2 hbs3.size
    have HMS3 : Hid (MsgIs N3 WS3 cl3.toArray x) := hm3.keep (fun _ h => h) (Kept.of_below hbs3 (fun b hb => (hN3 b hb).2))
    clear hth3 hWS3 hrs3 hss3 hbs3 hN3 hm3 hbk3
    unfold zc at hWA3
    have CS : Hid (Calls Tryz.prog 13 #[.agg cl.toArray, .agg cl3.toArray] WS3 fun e w' => e = .returned (.bool true) ∧ Below WS3.heap.size WS3 w') := same_eq cl.toArray cl3.toArray x D N3 WS3 (HM.out WS3 HBS3.out) HMS3.out (HD.out WS3 HBS3.out) HN3.out
    go_wp2_with (first | (refine wpList_store_mid rfl 49 _ _ rfl w3.heap.size 0 cl3.toArray rfl rfl HTH3.out HI3.out HON3.out ?_; rw [HWS3.out]) | (refine wpList_load_mid rfl 49 _ rfl w.heap.size 0 rfl cl _ (HRM.out _ HBS3.out) Tryz.underlying49 rfl HI.out ?_) | (refine wpList_load_midG rfl 49 _ rfl w.heap.size 0 rfl cl _ (HRM.out _ HBS3.out) Tryz.underlying49 rfl HI.out ?_) | (refine wpList_load_mid rfl 49 _ rfl w3.heap.size 0 rfl cl3 _ (HRS3.out _ (Below.refl _ _)) Tryz.underlying49 rfl HJ3.out ?_) | (refine wpList_load_midG rfl 49 _ rfl w3.heap.size 0 rfl cl3 _ (HRS3.out _ (Below.refl _ _)) Tryz.underlying49 rfl HJ3.out ?_))
    refine CS.out.mono ?_
    rintro e w4 ⟨rfl, hb4⟩
    have HB4 : Hid (Below W0.heap.size W0 w4) := HBS3.out.trans (hb4.mono HBS3.out.size)
    clear hb4
    go_wp2_with (first | (refine wpList_load_mid rfl 49 _ rfl w.heap.size 0 rfl cl _ (HRM.out _ HB4.out) Tryz.underlying49 rfl HI.out ?_) | (refine wpList_load_midG rfl 49 _ rfl w.heap.size 0 rfl cl _ (HRM.out _ HB4.out) Tryz.underlying49 rfl HI.out ?_))
    refine (CK.out w4 HB4.out).mono ?_
    rintro e w8 ⟨rfl, hb8⟩
    have HB8 : Hid (Below W0.heap.size W0 w8) := HB4.out.trans (hb8.mono HB4.out.size)
    clear hb8 HTH3 HWS3 HI3 HJ3 HON3 HRS3 HN3 HMS3 CS CK hWA3
    as_aux_lemma =>
      have HBC5 : Hid (Below W0.heap.size W0 w8) := HB8.out
      go_wp2_with fail
      refine (CR.out s w8 HBC5.out).mono ?_
      rintro e w5 ⟨cl5, N5, rfl, hl5, hN5, hm5, hbk5⟩
      obtain ⟨WA5, hWA5, hth5, WS5, hWS5, hrs5, hss5, hbs5⟩ := new_box w5 cl5 hl5
      have HTH5 : Hid (WA5.there w5.heap.size 0 cl5.toArray.size) := hth5
      have HWS5 : Hid (WA5.setCells w5.heap.size 0 cl5.toArray.toList = WS5) := hWS5
      have HI5 : Hid ((Tryz.prog.info? 49).map (·.size) = some cl5.toArray.size) := by show _ = _; rw [show cl5.toArray.size = 47 by simpa using hl5]; exact size49
      have HJ5 : Hid ((Tryz.prog.info? 49).map (·.size) = some cl5.length) := by show _ = _; rw [hl5]; exact size49
      have HON5 : Hid (cl5.toArray.all (·.oneCell') = true) := msg_one hm5
      have HBS5 : Hid (Below W0.heap.size W0 WS5) := (HBC5.out.trans (hbk5.mono HBC5.out.size)).trans (hbs5.mono (HBC5.out.trans (hbk5.mono HBC5.out.size)).size)
      have HZ5 : Hid (w5.heap.size < WS5.heap.size) := by show _ < _; rw [hss5]; omega
      have HRS5 : Hid (∀ W, Below WS5.heap.size WS5 W → W.rangeAt w5.heap.size 0 cl5) := fun W hb j v hv => by
        rw [hb.cell (p := ⟨w5.heap.size, 0 + j, none⟩) HZ5.out]
        exact hrs5 j v hv
      have HN5 : Hid (∀ b, N5 b → b < WS5.heap.size) := fun b hb => Nat.lt_of_lt_of_le (hN5 b hb).2 hbs5.size
      have HMS5 : Hid (MsgIs N5 WS5 cl5.toArray (rdM s)) := hm5.keep (fun _ h => h) (Kept.of_below hbs5 (fun b hb => (hN5 b hb).2))
      clear hth5 hWS5 hrs5 hss5 hbs5 hN5 hm5 hbk5
      unfold zc at hWA5
      cases hr : rdOk s with
      | true =>
        obtain ⟨y1, y2⟩ := back_there s hr
        have hE : rdE s = 0 := by unfold rdE; rw [hr, if_pos rfl]
        have hWE : wrE (rdM s) = 0 := by unfold wrE; rw [y1, if_pos rfl]
        have CW := write_any cl5.toArray N5 (rdM s) WS5 HN5.out (HT.out WS5 HBS5.out).1 (HT.out WS5 HBS5.out).2 HMS5.out
        rw [y2, hWE] at CW
        have HCW : Hid _ := CW
        have CK : Hid (∀ W, Below WS5.heap.size WS5 W → Calls Tryz.prog 14 #[.agg cl5.toArray] W fun e w' => e = .returned (.int .i64 0) ∧ Below W.heap.size W w') := fun W hb => by
          have hbW := HBS5.out.trans (hb.mono HBS5.out.size)
          have := check8_any cl5 N5 (rdM s) W (fun b h => Nat.lt_of_lt_of_le (HN5.out b h) hb.size) (HT.out W hbW).1 (HT.out W hbW).2 (HMS5.out.keep (fun _ h => h) (Kept.of_below hb HN5.out))
          rw [hWE] at this
          exact this
        rw [hE]
        clear hr y1 y2 hE hWE CW
        go_wp2_with (first | (refine wpList_store_mid rfl 49 _ _ rfl w5.heap.size 0 cl5.toArray rfl rfl HTH5.out HI5.out HON5.out ?_; rw [HWS5.out]) | (refine wpList_load_mid rfl 49 _ rfl w5.heap.size 0 rfl cl5 _ (HRS5.out _ (Below.refl _ _)) Tryz.underlying49 rfl HJ5.out ?_) | (refine wpList_load_midG rfl 49 _ rfl w5.heap.size 0 rfl cl5 _ (HRS5.out _ (Below.refl _ _)) Tryz.underlying49 rfl HJ5.out ?_))
        refine Calls.mono HCW.out ?_
        rintro e w6 ⟨rfl, hb6⟩
        have HB6 : Hid (Below WS5.heap.size WS5 w6) := hb6
        clear hb6
        go_wp2_with (first | (refine wpList_load_mid rfl 49 _ rfl w5.heap.size 0 rfl cl5 _ (HRS5.out _ HB6.out) Tryz.underlying49 rfl HJ5.out ?_) | (refine wpList_load_midG rfl 49 _ rfl w5.heap.size 0 rfl cl5 _ (HRS5.out _ HB6.out) Tryz.underlying49 rfl HJ5.out ?_))
        refine (CK.out w6 HB6.out).mono ?_
        rintro e w7 ⟨rfl, hb7⟩
        have HB7 : Hid (Below WS5.heap.size WS5 w7) := HB6.out.trans (hb7.mono HB6.out.size)
        clear hb7
        go_wp2_with fail
        go_ret
        exact ⟨rfl, HB0.out.trans ((HBS5.out.trans (HB7.out.mono HBS5.out.size)).mono HB0.out.size)⟩
      | false =>
        have hE : rdE s = 11 := by unfold rdE; rw [hr]; rfl
        have hM : rdM s = mg0 := by unfold rdM; rw [hr]; rfl
        rw [hM] at HMS5
        have CS : Hid (Calls Tryz.prog 13 #[.agg cl5.toArray, .agg zc.toArray] WS5 fun e w' => e = .returned (.bool true) ∧ Below WS5.heap.size WS5 w') := same_eq cl5.toArray zc.toArray mg0 N5 noB WS5 HMS5.out (zero_is WS5) HN5.out (fun b hb => hb.elim)
        unfold zc at CS
        rw [hE]
        clear hr hE hM
        go_wp2_with (first | (refine wpList_store_mid rfl 49 _ _ rfl w5.heap.size 0 cl5.toArray rfl rfl HTH5.out HI5.out HON5.out ?_; rw [HWS5.out]) | (refine wpList_load_mid rfl 49 _ rfl w5.heap.size 0 rfl cl5 _ (HRS5.out _ (Below.refl _ _)) Tryz.underlying49 rfl HJ5.out ?_) | (refine wpList_load_midG rfl 49 _ rfl w5.heap.size 0 rfl cl5 _ (HRS5.out _ (Below.refl _ _)) Tryz.underlying49 rfl HJ5.out ?_))
        refine CS.out.mono ?_
        rintro e w6 ⟨rfl, hb6⟩
        have HB6 : Hid (Below WS5.heap.size WS5 w6) := hb6
        clear hb6
        go_wp2_with fail
        go_ret
        exact ⟨rfl, HB0.out.trans ((HBS5.out.trans (HB6.out.mono HBS5.out.size)).mono HB0.out.size)⟩
  | false =>
    have hWE : wrE x = 11 := by unfold wrE; rw [h0]; rfl
    have hWS : wrS x = ⟨#[]⟩ := by unfold wrS; rw [h0]; rfl
    rw [hWE, hWS]
    clear h0 hWE hWS
    as_aux_lemma =>
      have HBC5 : Hid (Below W0.heap.size W0 w2) := HB2.out
      go_wp2_with fail
      refine (CR.out s w2 HBC5.out).mono ?_
      rintro e w5 ⟨cl5, N5, rfl, hl5, hN5, hm5, hbk5⟩
      obtain ⟨WA5, hWA5, hth5, WS5, hWS5, hrs5, hss5, hbs5⟩ := new_box w5 cl5 hl5
      have HTH5 : Hid (WA5.there w5.heap.size 0 cl5.toArray.size) := hth5
      have HWS5 : Hid (WA5.setCells w5.heap.size 0 cl5.toArray.toList = WS5) := hWS5
      have HI5 : Hid ((Tryz.prog.info? 49).map (·.size) = some cl5.toArray.size) := by show _ = _; rw [show cl5.toArray.size = 47 by simpa using hl5]; exact size49
      have HJ5 : Hid ((Tryz.prog.info? 49).map (·.size) = some cl5.length) := by show _ = _; rw [hl5]; exact size49
      have HON5 : Hid (cl5.toArray.all (·.oneCell') = true) := msg_one hm5
      have HBS5 : Hid (Below W0.heap.size W0 WS5) := (HBC5.out.trans (hbk5.mono HBC5.out.size)).trans (hbs5.mono (HBC5.out.trans (hbk5.mono HBC5.out.size)).size)
      have HZ5 : Hid (w5.heap.size < WS5.heap.size) := by show _ < _; rw [hss5]; omega
      have HRS5 : Hid (∀ W, Below WS5.heap.size WS5 W → W.rangeAt w5.heap.size 0 cl5) := fun W hb j v hv => by
        rw [hb.cell (p := ⟨w5.heap.size, 0 + j, none⟩) HZ5.out]
        exact hrs5 j v hv
      have HN5 : Hid (∀ b, N5 b → b < WS5.heap.size) := fun b hb => Nat.lt_of_lt_of_le (hN5 b hb).2 hbs5.size
      have HMS5 : Hid (MsgIs N5 WS5 cl5.toArray (rdM s)) := hm5.keep (fun _ h => h) (Kept.of_below hbs5 (fun b hb => (hN5 b hb).2))
      clear hth5 hWS5 hrs5 hss5 hbs5 hN5 hm5 hbk5
      unfold zc at hWA5
      cases hr : rdOk s with
      | true =>
        obtain ⟨y1, y2⟩ := back_there s hr
        have hE : rdE s = 0 := by unfold rdE; rw [hr, if_pos rfl]
        have hWE : wrE (rdM s) = 0 := by unfold wrE; rw [y1, if_pos rfl]
        have CW := write_any cl5.toArray N5 (rdM s) WS5 HN5.out (HT.out WS5 HBS5.out).1 (HT.out WS5 HBS5.out).2 HMS5.out
        rw [y2, hWE] at CW
        have HCW : Hid _ := CW
        have CK : Hid (∀ W, Below WS5.heap.size WS5 W → Calls Tryz.prog 14 #[.agg cl5.toArray] W fun e w' => e = .returned (.int .i64 0) ∧ Below W.heap.size W w') := fun W hb => by
          have hbW := HBS5.out.trans (hb.mono HBS5.out.size)
          have := check8_any cl5 N5 (rdM s) W (fun b h => Nat.lt_of_lt_of_le (HN5.out b h) hb.size) (HT.out W hbW).1 (HT.out W hbW).2 (HMS5.out.keep (fun _ h => h) (Kept.of_below hb HN5.out))
          rw [hWE] at this
          exact this
        rw [hE]
        clear hr y1 y2 hE hWE CW
        go_wp2_with (first | (refine wpList_store_mid rfl 49 _ _ rfl w5.heap.size 0 cl5.toArray rfl rfl HTH5.out HI5.out HON5.out ?_; rw [HWS5.out]) | (refine wpList_load_mid rfl 49 _ rfl w5.heap.size 0 rfl cl5 _ (HRS5.out _ (Below.refl _ _)) Tryz.underlying49 rfl HJ5.out ?_) | (refine wpList_load_midG rfl 49 _ rfl w5.heap.size 0 rfl cl5 _ (HRS5.out _ (Below.refl _ _)) Tryz.underlying49 rfl HJ5.out ?_))
        refine Calls.mono HCW.out ?_
        rintro e w6 ⟨rfl, hb6⟩
        have HB6 : Hid (Below WS5.heap.size WS5 w6) := hb6
        clear hb6
        go_wp2_with (first | (refine wpList_load_mid rfl 49 _ rfl w5.heap.size 0 rfl cl5 _ (HRS5.out _ HB6.out) Tryz.underlying49 rfl HJ5.out ?_) | (refine wpList_load_midG rfl 49 _ rfl w5.heap.size 0 rfl cl5 _ (HRS5.out _ HB6.out) Tryz.underlying49 rfl HJ5.out ?_))
        refine (CK.out w6 HB6.out).mono ?_
        rintro e w7 ⟨rfl, hb7⟩
        have HB7 : Hid (Below WS5.heap.size WS5 w7) := HB6.out.trans (hb7.mono HB6.out.size)
        clear hb7
        go_wp2_with fail
        go_ret
        exact ⟨rfl, HB0.out.trans ((HBS5.out.trans (HB7.out.mono HBS5.out.size)).mono HB0.out.size)⟩
      | false =>
        have hE : rdE s = 11 := by unfold rdE; rw [hr]; rfl
        have hM : rdM s = mg0 := by unfold rdM; rw [hr]; rfl
        rw [hM] at HMS5
        have CS : Hid (Calls Tryz.prog 13 #[.agg cl5.toArray, .agg zc.toArray] WS5 fun e w' => e = .returned (.bool true) ∧ Below WS5.heap.size WS5 w') := same_eq cl5.toArray zc.toArray mg0 N5 noB WS5 HMS5.out (zero_is WS5) HN5.out (fun b hb => hb.elim)
        unfold zc at CS
        rw [hE]
        clear hr hE hM
        go_wp2_with (first | (refine wpList_store_mid rfl 49 _ _ rfl w5.heap.size 0 cl5.toArray rfl rfl HTH5.out HI5.out HON5.out ?_; rw [HWS5.out]) | (refine wpList_load_mid rfl 49 _ rfl w5.heap.size 0 rfl cl5 _ (HRS5.out _ (Below.refl _ _)) Tryz.underlying49 rfl HJ5.out ?_) | (refine wpList_load_midG rfl 49 _ rfl w5.heap.size 0 rfl cl5 _ (HRS5.out _ (Below.refl _ _)) Tryz.underlying49 rfl HJ5.out ?_))
        refine CS.out.mono ?_
        rintro e w6 ⟨rfl, hb6⟩
        have HB6 : Hid (Below WS5.heap.size WS5 w6) := hb6
        clear hb6
        go_wp2_with fail
        go_ret
        exact ⟨rfl, HB0.out.trans ((HBS5.out.trans (HB6.out.mono HBS5.out.size)).mono HB0.out.size)⟩
end Go.Proofs.YtjpnomkcinfonaaGreatDoor
