/- The walk of StreamTakes. -/
import Derived.Test.YtcmiphgeakdonaaDh
namespace Go.Proofs.Ytcmiphgeakdonaa
open Go.Shelf Go.RowKit Go.Lib Go.Sort
set_option linter.unusedVariables false
set_option linter.unusedSimpArgs false
attribute [local go_sem ↓] Go.wp_at_zero Go.wp_at_succ
theorem refTake_all (cs cl : List Value) (x : In_) (y : Ms) (K : Nat → Prop) (w : World) (h : rIn K w cs x) (h' : rMs K w cl y) (hk256 : y.k < 256) (hK : ∀ b, K b → b < w.heap.size) :
    Calls Try.prog 19 #[.agg cs.toArray, .agg cl.toArray] w fun e w' => TakR w (tkE x y) (tkI x y) e w' := by
  by_cases h0 : inE x = 0
  · have e1 : tkE x y = refG x y := by unfold tkE; rw [if_pos h0]
    have e2 : tkI x y = takeG x y := by unfold tkI; rw [if_pos h0]
    rw [e1, e2]
    exact refTake_good cs cl x y K w h h0 h' hk256 hK
  · have e1 : tkE x y = 6 := by unfold tkE; rw [if_neg h0]
    have e2 : tkI x y = in0 := by unfold tkI; rw [if_neg h0]
    rw [e1, e2]
    exact refTake_bad cs cl x K w h (inE_two x h0) hK
theorem rIn_len {K : Nat → Prop} {w : World} {cs : List Value} {x : In_} (h : rIn K w cs x) : cs.length = 9 := by
  obtain ⟨q, c, q2, c2, rfl, _⟩ := in_cells2 h
  rfl
theorem rIn_one {K : Nat → Prop} {w : World} {cs : List Value} {x : In_} (h : rIn K w cs x) : cs.toArray.all (·.oneCell') = true := by
  obtain ⟨q, c, q2, c2, rfl, _⟩ := in_cells2 h
  simp [Value.oneCell']
theorem copyIn_any (K : Nat → Prop) (w : World) (cs : List Value) (x : In_) (h : rIn K w cs x) (hK : ∀ b, K b → b < w.heap.size) :
    Calls Try.prog 17 #[.agg cs.toArray] w fun e w' => ∃ cs', e = .returned (.agg cs'.toArray) ∧ rIn (From w.heap.size w') w' cs' x ∧ Below w.heap.size w w' := by
  obtain ⟨q, c, q2, c2, _, hok, hn64, _, _, hby, _, _, hby2⟩ := in_cells2 h
  refine (copyInO K w cs x h hK).mono ?_
  rintro e w' ⟨p1, r1, p2, r2, rfl, hv, hb⟩
  obtain ⟨_, _, e1, l1⟩ := hv.held.list mBat (bytes := 40) hby
  obtain ⟨_, _, e2, l2⟩ := hv.rows.list mRow (bytes := 24) hby2
  rw [← e1] at l1
  rw [← e2] at l2
  exact ⟨[.int .u64 (x.m.qb : Int), .int .u64 (x.m.qn : Int), .int .i64 x.m.at_, .int .i64 x.m.fr, .int .i64 x.m.tq, .int .u64 (x.n : Int), .slice p1 x.h.length r1, .slice p2 x.r.length r2, .bool x.d], rfl, ⟨_, _, rfl, ⟨hok, hn64⟩, l1, l2⟩, hb⟩
set_option maxRecDepth 100000 in
set_option maxHeartbeats 16000000 in
theorem takes_any (cs cl : List Value) (x : In_) (y : Ms) (K : Nat → Prop) (w : World) (h : rIn K w cs x) (h' : rMs K w cl y) (hk256 : y.k < 256) (hK : ∀ b, K b → b < w.heap.size) :
    Calls Try.prog 4 #[.agg cs.toArray, .agg cl.toArray] w fun e w' => e = .returned (.bool true) ∧ Below w.heap.size w w' := by
  obtain ⟨W0, hW0, hb0, hs0, g0, g1⟩ := two_boxes2 w cs.toArray cl.toArray 68 62
  have SZ0 : Hid ((Try.prog.info? 68).map (·.size) = some cs.length) := by show _ = _; rw [rIn_len h]; exact sz_In
  have SZM : Hid ((Try.prog.info? 62).map (·.size) = some cl.length) := by show _ = _; rw [h'.1]; exact sz_Msg
  have HV0 : Hid (∀ V, Below W0.heap.size W0 V → V.rangeAt w.heap.size 0 cs ∧ V.rangeAt (w.heap.size + 1) 0 cl ∧ Below w.heap.size w V ∧ rIn K V cs x ∧ rMs K V cl y ∧ ∀ b, K b → b < V.heap.size) := fun V hb => by
    have hbw := hb0.trans (hb.mono hb0.size)
    exact ⟨range_box g0 hb, range_box g1 hb, hbw, mIn _ _ _ _ _ _ (fun _ h => h) (kept_of hK hbw) h, mMs _ _ _ _ _ _ (fun _ h => h) (kept_of hK hbw) h', fun b hb' => Nat.lt_of_lt_of_le (hK b hb') hbw.size⟩
  obtain ⟨v1, v2, v3, v4, v5, v6⟩ := HV0.out W0 (Below.refl _ _)
  have C0 := hid (copyIn_any K W0 cs x v4 v6)
  have R0 := hid v1
  have HM : Hid (y.k < 256) := hk256
  obtain ⟨z, hz⟩ : ∃ z, tkI x y = z := ⟨_, rfl⟩
  obtain ⟨E, hE⟩ : ∃ E, tkE x y = E := ⟨_, rfl⟩
  have HTR : Hid (∀ w e w', TakR w (tkE x y) (tkI x y) e w' → ∃ cs', e = .returned (.tuple #[.agg cs'.toArray, .int .i64 E]) ∧ rIn (From w.heap.size w') w' cs' z ∧ Below w.heap.size w w') := fun w e w' ht => by rw [hz, hE] at ht; exact ht
  clear h h' hk256 hK hb0 hs0 g0 g1 v1 v2 v3 v4 v5 v6 hz hE
  go_enter Try.func4, Try.ntmps4
  go_wp2_with (refine wpList_load_mid rfl 68 _ rfl w.heap.size 0 rfl cs _ R0.out Try.underlying68 rfl SZ0.out ?_)
  refine C0.out.mono ?_
  rintro e w1 ⟨cg, rfl, hrg, hb1⟩
  obtain ⟨WA1, hWA1, hth1, V1, hWS1, _, hss1, hbs1, hrl1⟩ := box_new w1 68 #[.int .u64 0, .int .u64 0, .int .i64 0, .int .i64 0, .int .i64 0, .int .u64 0, .slice none 0 0, .slice none 0 0, .bool false] cg (by rw [rIn_len hrg]; rfl)
  have HTH1 : Hid (WA1.there w1.heap.size 0 cg.toArray.size) := hth1
  have HWS1 : Hid (WA1.setCells w1.heap.size 0 cg.toArray.toList = V1) := hWS1
  have HON1 : Hid (cg.toArray.all (·.oneCell') = true) := rIn_one hrg
  have HSA1 : Hid ((Try.prog.info? 68).map (·.size) = some cg.toArray.size) := by show _ = _; rw [List.size_toArray, rIn_len hrg]; exact sz_In
  have HSZ1 : Hid ((Try.prog.info? 68).map (·.size) = some cg.length) := by show _ = _; rw [rIn_len hrg]; exact sz_In
  have HV1 : Hid (∀ V, Below V1.heap.size V1 V → V.rangeAt w1.heap.size 0 cg ∧ rIn (From W0.heap.size w1) V cg x ∧ (∀ b, From W0.heap.size w1 b → b < V.heap.size) ∧ Below W0.heap.size W0 V) := fun V hb => by
    have hbw := hbs1.trans (hb.mono hbs1.size)
    exact ⟨hrl1 V hb, mIn _ _ _ _ _ _ (fun _ h => h) (kept_of From.lt hbw) hrg, fun b hb' => Nat.lt_of_lt_of_le hb'.2 hbw.size, hb1.trans (hbw.mono hb1.size)⟩
  obtain ⟨y1, y2, y3, y4⟩ := HV1.out V1 (Below.refl _ _)
  obtain ⟨v1, v2, v3, v4, v5, v6⟩ := HV0.out V1 y4
  have C1 : Hid (Calls Try.prog 18 #[.agg cg.toArray, .agg cl.toArray] V1 fun e w' => TakR V1 (tkE x y) (tkI x y) e w') := take_all cg cl x y (fun b => b < V1.heap.size) V1 (mIn _ _ _ _ _ _ y3 (Kept.refl _ _) y2) (mMs _ _ _ _ _ _ v6 (Kept.refl _ _) v5) HM.out (fun b h => h)
  have R1 := hid y1
  have R2 := hid v2
  clear C0 R0 hrg hb1 y1 y2 y3 y4 v1 v2 v3 v4 v5 v6 hW0 hth1 hWS1 hss1 hbs1 hrl1
  go_wp2_with (first | (refine wpList_store_mid rfl 68 _ _ rfl w1.heap.size 0 cg.toArray rfl rfl HTH1.out HSA1.out HON1.out ?_; rw [HWS1.out]) | (refine wpList_load_mid rfl 68 _ rfl w1.heap.size 0 rfl cg _ R1.out Try.underlying68 rfl HSZ1.out ?_) | (refine wpList_load_mid rfl 62 _ rfl (w.heap.size + 1) 0 rfl cl _ R2.out Try.underlying62 rfl SZM.out ?_))
  refine C1.out.mono ?_
  intro e w2 ht
  obtain ⟨ca, rfl, hra, hb2⟩ := HTR.out _ _ _ ht
  obtain ⟨WA2, hWA2, hth2, V2, hWS2, _, hss2, hbs2, hrl2⟩ := box_new w2 68 #[.int .u64 0, .int .u64 0, .int .i64 0, .int .i64 0, .int .i64 0, .int .u64 0, .slice none 0 0, .slice none 0 0, .bool false] ca (by rw [rIn_len hra]; rfl)
  have HTH2 : Hid (WA2.there w2.heap.size 0 ca.toArray.size) := hth2
  have HWS2 : Hid (WA2.setCells w2.heap.size 0 ca.toArray.toList = V2) := hWS2
  have HON2 : Hid (ca.toArray.all (·.oneCell') = true) := rIn_one hra
  have HSA2 : Hid ((Try.prog.info? 68).map (·.size) = some ca.toArray.size) := by show _ = _; rw [List.size_toArray, rIn_len hra]; exact sz_In
  have HSZ2 : Hid ((Try.prog.info? 68).map (·.size) = some ca.length) := by show _ = _; rw [rIn_len hra]; exact sz_In
  have HV2 : Hid (∀ V, Below V2.heap.size V2 V → V.rangeAt w2.heap.size 0 ca ∧ rIn (From V1.heap.size w2) V ca z ∧ (∀ b, From V1.heap.size w2 b → b < V.heap.size) ∧ Below V1.heap.size V1 V) := fun V hb => by
    have hbw := hbs2.trans (hb.mono hbs2.size)
    exact ⟨hrl2 V hb, mIn _ _ _ _ _ _ (fun _ h => h) (kept_of From.lt hbw) hra, fun b hb' => Nat.lt_of_lt_of_le hb'.2 hbw.size, hb2.trans (hbw.mono hb2.size)⟩
  obtain ⟨y1, y2, y3, y4⟩ := HV2.out V2 (Below.refl _ _)
  obtain ⟨_, _, _, y5⟩ := HV1.out V2 y4
  obtain ⟨v1, v2, v3, v4, v5, v6⟩ := HV0.out V2 y5
  have C2 : Hid (Calls Try.prog 19 #[.agg cs.toArray, .agg cl.toArray] V2 fun e w' => TakR V2 (tkE x y) (tkI x y) e w') := refTake_all cs cl x y K V2 v4 v5 HM.out v6
  have R3 := hid v1
  have R4 := hid v2
  clear C1 R1 R2 hra hb2 ht y1 y2 y3 y4 y5 v1 v2 v3 v4 v5 v6 hth2 hWS2 hss2 hbs2 hrl2 HTH1 HWS1 HON1 HSA1 hWA1
  go_wp2_with (first | (refine wpList_store_mid rfl 68 _ _ rfl w2.heap.size 0 ca.toArray rfl rfl HTH2.out HSA2.out HON2.out ?_; rw [HWS2.out]) | (refine wpList_load_mid rfl 68 _ rfl w.heap.size 0 rfl cs _ R3.out Try.underlying68 rfl SZ0.out ?_) | (refine wpList_load_mid rfl 62 _ rfl (w.heap.size + 1) 0 rfl cl _ R4.out Try.underlying62 rfl SZM.out ?_))
  refine C2.out.mono ?_
  intro e w3 ht
  obtain ⟨cb, rfl, hrb, hb3⟩ := HTR.out _ _ _ ht
  obtain ⟨WA3, hWA3, hth3, V3, hWS3, _, hss3, hbs3, hrl3⟩ := box_new w3 68 #[.int .u64 0, .int .u64 0, .int .i64 0, .int .i64 0, .int .i64 0, .int .u64 0, .slice none 0 0, .slice none 0 0, .bool false] cb (by rw [rIn_len hrb]; rfl)
  have HTH3 : Hid (WA3.there w3.heap.size 0 cb.toArray.size) := hth3
  have HWS3 : Hid (WA3.setCells w3.heap.size 0 cb.toArray.toList = V3) := hWS3
  have HON3 : Hid (cb.toArray.all (·.oneCell') = true) := rIn_one hrb
  have HSA3 : Hid ((Try.prog.info? 68).map (·.size) = some cb.toArray.size) := by show _ = _; rw [List.size_toArray, rIn_len hrb]; exact sz_In
  have HSZ3 : Hid ((Try.prog.info? 68).map (·.size) = some cb.length) := by show _ = _; rw [rIn_len hrb]; exact sz_In
  have HV3 : Hid (∀ V, Below V3.heap.size V3 V → V.rangeAt w3.heap.size 0 cb ∧ rIn (From V2.heap.size w3) V cb z ∧ (∀ b, From V2.heap.size w3 b → b < V.heap.size) ∧ Below V2.heap.size V2 V) := fun V hb => by
    have hbw := hbs3.trans (hb.mono hbs3.size)
    exact ⟨hrl3 V hb, mIn _ _ _ _ _ _ (fun _ h => h) (kept_of From.lt hbw) hrb, fun b hb' => Nat.lt_of_lt_of_le hb'.2 hbw.size, hb3.trans (hbw.mono hb3.size)⟩
  have HBK : Hid (∀ V, Below V3.heap.size V3 V → Below V2.heap.size V2 V ∧ Below V1.heap.size V1 V ∧ Below W0.heap.size W0 V) := fun V hb => by
    have e2 := (HV3.out V hb).2.2.2
    have e1 := (HV2.out V e2).2.2.2
    exact ⟨e2, e1, (HV1.out V e1).2.2.2⟩
  have HS : Hid (∀ p : LaterS V3.heap.size V3, p.w.rangeAt w.heap.size 0 cs ∧ p.w.rangeAt w1.heap.size 0 cg ∧ p.w.rangeAt w2.heap.size 0 ca ∧ p.w.rangeAt w3.heap.size 0 cb) := fun p => by
    obtain ⟨e2, e1, e0⟩ := HBK.out p.w p.h
    exact ⟨(HV0.out p.w e0).1, (HV1.out p.w e1).1, (HV2.out p.w e2).1, (HV3.out p.w p.h).1⟩
  have cL : Hid (∀ p : LaterS V3.heap.size V3, Calls Try.prog 10 #[] p.w fun e w' => e = .returned (.bool true) ∧ Below p.w.heap.size p.w w') := fun p => lives_any p.w
  have cS : Hid (∀ (p : LaterS V3.heap.size V3) (args : Array Value), (args = #[.agg ca.toArray, .agg cb.toArray] ∨ args = #[.agg cg.toArray, .agg cs.toArray]) → Calls Try.prog 20 args p.w fun e w' => e = .returned (.bool true) ∧ Below p.w.heap.size p.w w') := fun p args ha => by
    obtain ⟨e2, e1, e0⟩ := HBK.out p.w p.h
    obtain ⟨_, a2, a3, _⟩ := HV3.out p.w p.h
    obtain ⟨_, b2, b3, _⟩ := HV2.out p.w e2
    obtain ⟨_, c2, c3, _⟩ := HV1.out p.w e1
    obtain ⟨_, _, _, d4, _, d6⟩ := HV0.out p.w e0
    rcases ha with rfl | rfl
    · exact sameIn_eq _ _ z _ _ p.w b2 a2 b3 a3
    · exact sameIn_eq _ _ x _ _ p.w c2 d4 c3 d6
  obtain ⟨E2, hE2⟩ : ∃ E2, inE x = E2 := ⟨_, rfl⟩
  obtain ⟨ck, hck⟩ : ∃ ck, mgC 5 x.m x.n false (.slice none 0 0) = ck := ⟨_, rfl⟩
  have cC : Hid (∀ p : LaterS V3.heap.size V3, Calls Try.prog 21 #[.agg cg.toArray] p.w fun e w' => e = .returned (.int .i64 E2) ∧ Below p.w.heap.size p.w w') := fun p => by
    obtain ⟨e2, e1, e0⟩ := HBK.out p.w p.h
    obtain ⟨_, c2, c3, _⟩ := HV1.out p.w e1
    have := checkIn_any cg x _ p.w c2 c3
    rw [hE2] at this
    exact this
  have cR : Hid (∀ p : LaterS V3.heap.size V3, Calls Try.prog 22 #[.agg cs.toArray] p.w fun e w' => e = .returned (.int .i64 E2) ∧ Below p.w.heap.size p.w w') := fun p => by
    obtain ⟨e2, e1, e0⟩ := HBK.out p.w p.h
    obtain ⟨_, _, _, d4, _, d6⟩ := HV0.out p.w e0
    have := refCheckIn_any cs x _ p.w d4 d6
    rw [hE2] at this
    exact this
  have cA : Hid (∀ p : LaterS V3.heap.size V3, Calls Try.prog 23 #[.agg cg.toArray] p.w fun e w' => e = .returned (.agg ck.toArray) ∧ Below p.w.heap.size p.w w') := fun p => by
    obtain ⟨e2, e1, e0⟩ := HBK.out p.w p.h
    obtain ⟨_, c2, c3, _⟩ := HV1.out p.w e1
    have := ack_any cg x _ p.w c2
    rw [hck] at this
    exact this
  have cB : Hid (∀ p : LaterS V3.heap.size V3, Calls Try.prog 24 #[.agg cs.toArray] p.w fun e w' => e = .returned (.agg ck.toArray) ∧ Below p.w.heap.size p.w w') := fun p => by
    obtain ⟨e2, e1, e0⟩ := HBK.out p.w p.h
    obtain ⟨_, _, _, d4, _, d6⟩ := HV0.out p.w e0
    have := refAck_any cs x _ p.w d4
    rw [hck] at this
    exact this
  have cM : Hid (∀ p : LaterS V3.heap.size V3, Calls Try.prog 12 #[.agg ck.toArray, .agg ck.toArray] p.w fun e w' => e = .returned (.bool true) ∧ Below p.w.heap.size p.w w') := fun p => by
    have := same_msg 5 x.m x.n false none none 0 0 [] (fun _ => False) (fun _ => False) p.w ⟨none, 0, rfl, ⟨by simp, by simp⟩, fun h => by simp at h⟩ ⟨none, 0, rfl, ⟨by simp, by simp⟩, fun h => by simp at h⟩ (fun _ h => h.elim) (fun _ h => h.elim)
    simp only [List.length_nil, hck] at this
    exact this
  have t1 : (E == E) = true := by simp
  have t2 : (E2 == E2) = true := by simp
  have HB3 : Hid (Below w.heap.size w V3) := by
    obtain ⟨e2, e1, e0⟩ := HBK.out V3 (Below.refl _ _)
    exact (HV0.out V3 e0).2.2.1
  clear C2 R3 R4 hrb hb3 ht hth3 hWS3 hss3 hbs3 hrl3 HTH2 HWS2 HON2 HSA2 hWA2 HTR hE2 hck
  go_wp2_with (refine wpList_store_mid rfl 68 _ _ rfl w3.heap.size 0 cb.toArray rfl rfl HTH3.out HSA3.out HON3.out ?_; rw [HWS3.out])
  have inhL := laterInh
  refine wp_region_laterS mixedOnS (by kernel_rfl) ?_
  repeat (first
    | (refine wpQuiet_load_mid (by rfl) 68 _ rfl w.heap.size 0 rfl cs _ (fun w hw => by obtain ⟨p, rfl⟩ := hw; exact (HS.out p).1) Try.underlying68 rfl SZ0.out ?_; simp only [Act.put, List.getElem_toArray, List.getElem_cons_zero, List.getElem_cons_succ, List.setIfInBounds_toArray, List.set_cons_zero, List.set_cons_succ])
    | (refine wpQuiet_load_mid (by rfl) 68 _ rfl w1.heap.size 0 rfl cg _ (fun w hw => by obtain ⟨p, rfl⟩ := hw; exact (HS.out p).2.1) Try.underlying68 rfl HSZ1.out ?_; simp only [Act.put, List.getElem_toArray, List.getElem_cons_zero, List.getElem_cons_succ, List.setIfInBounds_toArray, List.set_cons_zero, List.set_cons_succ])
    | (refine wpQuiet_load_mid (by rfl) 68 _ rfl w2.heap.size 0 rfl ca _ (fun w hw => by obtain ⟨p, rfl⟩ := hw; exact (HS.out p).2.2.1) Try.underlying68 rfl HSZ2.out ?_; simp only [Act.put, List.getElem_toArray, List.getElem_cons_zero, List.getElem_cons_succ, List.setIfInBounds_toArray, List.set_cons_zero, List.set_cons_succ])
    | (refine wpQuiet_load_mid (by rfl) 68 _ rfl w3.heap.size 0 rfl cb _ (fun w hw => by obtain ⟨p, rfl⟩ := hw; exact (HS.out p).2.2.2) Try.underlying68 rfl HSZ3.out ?_; simp only [Act.put, List.getElem_toArray, List.getElem_cons_zero, List.getElem_cons_succ, List.setIfInBounds_toArray, List.set_cons_zero, List.set_cons_succ])
    | go_big_quiet_step (first | (go_at_call 10; exact calls_laterS (cL.out _)) | (go_at_call 20; exact calls_laterS (cS.out _ _ (by first | exact Or.inl rfl | exact Or.inr rfl))) | (go_at_call 21; exact calls_laterS (cC.out _)) | (go_at_call 22; exact calls_laterS (cR.out _)) | (go_at_call 23; exact calls_laterS (cA.out _)) | (go_at_call 24; exact calls_laterS (cB.out _)) | (go_at_call 12; exact calls_laterS (cM.out _))))
  refine wpQuiet_nil ?_
  intro w8 hw'
  obtain ⟨⟨wq, hwq⟩, hw''⟩ := hw'
  have e2 : w8 = wq := hw''
  subst e2
  have HB8 : Hid (Below w.heap.size w w8) := HB3.out.trans (hwq.mono HB3.out.size)
  clear hw'' hwq HS cL cS cC cR cA cB cM
  go_wp2_with fail
  go_ret
  exact ⟨rfl, HB8.out⟩
end Go.Proofs.Ytcmiphgeakdonaa
