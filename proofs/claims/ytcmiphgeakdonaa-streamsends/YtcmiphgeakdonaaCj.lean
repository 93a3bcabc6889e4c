/- StreamSends: the walk. -/
import Derived.Test.YtcmiphgeakdonaaCi
import Derived.Test.YtcmiphgeakdonaaBb
namespace Go.Proofs.Ytcmiphgeakdonaa
open Go.Shelf Go.RowKit Go.Lib Go.Sort
set_option linter.unusedVariables false
set_option linter.unusedSimpArgs false
attribute [local go_sem ↓] Go.wp_at_zero Go.wp_at_succ
/-- What is sent of any. -/
def msgs (x : Ot) : List Mg := if outE x = 0 then sendP x else []
theorem msgs_le (x : Ot) : (msgs x).length ≤ 4 := by
  unfold msgs
  split
  · unfold sendP sendN
    rw [List.length_map, List.length_range]
    omega
  · simp
def SnA (w : World) (x : Ot) (e : Ending) (w' : World) : Prop := ∃ p c, e = .returned (.tuple #[.slice p (msgs x).length c, .int .i64 (outE x)]) ∧ ListIs rMg 47 640 (From w.heap.size w') w' (.slice p (msgs x).length c) (msgs x) ∧ Below w.heap.size w w'
theorem snA_of {w : World} {x : Ot} (h : outE x = 0) {e : Ending} {w' : World} (hs : SndR w x e w') : SnA w x e w' := by
  obtain ⟨u, rfl, ho, hb⟩ := hs
  have hm : msgs x = sendP x := by unfold msgs; rw [if_pos h]
  have hl := msgs_le x
  rw [hm] at hl
  obtain ⟨p, c, rfl, hl2⟩ := ho.list mMg (bytes := 640) (by omega)
  exact ⟨p, c, by rw [hm, h], by rw [hm]; exact hl2, hb⟩
theorem snA_bad {w : World} {x : Ot} (h : outE x = 6) {e : Ending} {w' : World} (hs : e = .returned (.tuple #[.slice none 0 0, .int .i64 6]) ∧ Below w.heap.size w w') : SnA w x e w' := by
  obtain ⟨rfl, hb⟩ := hs
  have hm : msgs x = [] := by unfold msgs; rw [if_neg (by rw [h]; decide)]
  exact ⟨none, 0, by rw [hm, h]; rfl, by rw [hm]; exact ⟨none, 0, rfl, ⟨by simp, by simp⟩, fun h => by simp at h⟩, hb⟩
theorem sendA (cs : List Value) (x : Ot) (K : Nat → Prop) (w : World) (h : rOut K w cs x) (hK : ∀ b, K b → b < w.heap.size) : Calls Try.prog 8 #[.agg cs.toArray] w fun e w' => SnA w x e w' := by
  by_cases h0 : outE x = 0
  · exact (send_any cs x K w h h0 hK).mono fun e w' hs => snA_of h0 hs
  · exact (send_bad cs x K w h (outE_two x h0) hK).mono fun e w' hs => snA_bad (outE_two x h0) hs
theorem refSendA (cs : List Value) (x : Ot) (K : Nat → Prop) (w : World) (h : rOut K w cs x) (hK : ∀ b, K b → b < w.heap.size) : Calls Try.prog 9 #[.agg cs.toArray] w fun e w' => SnA w x e w' := by
  by_cases h0 : outE x = 0
  · exact (refSend_any cs x K w h h0 hK).mono fun e w' hs => snA_of h0 hs
  · exact (refSend_bad cs x K w h (outE_two x h0) hK).mono fun e w' hs => snA_bad (outE_two x h0) hs
set_option maxRecDepth 100000 in
set_option maxHeartbeats 16000000 in
theorem sends_any (cs : List Value) (x : Ot) (s : Strm) (v : Value) (rows : List (List Val)) (seq : Nat) (K : Nat → Prop) (w : World) (h : rOut K w cs x) (hs : okS s) (hr : ListIs rRow 1 24 K w v rows) (hq : seq < 18446744073709551616) (hK : ∀ b, K b → b < w.heap.size) :
    Calls Try.prog 3 #[.agg cs.toArray, .agg #[.int .u64 (s.qb : Int), .int .u64 (s.qn : Int), .int .i64 s.at_, .int .i64 s.fr, .int .i64 s.tq], v, .int .u64 (seq : Int)] w fun e w' => e = .returned (.bool true) ∧ Below w.heap.size w w' := by
  obtain ⟨q, c, rfl, hok, hl, hcap, hby⟩ := out_cells h
  obtain ⟨qr, cr, rfl, hrb, -⟩ := id hr
  obtain ⟨W0, hW0, hb0, hs0, g0, g1⟩ := two_boxes2 w #[.int .u64 (x.m.qb : Int), .int .u64 (x.m.qn : Int), .int .i64 x.m.at_, .int .i64 x.m.fr, .int .i64 x.m.tq, .slice q x.b.length c, .int .u64 (x.a : Int)] #[.int .u64 (s.qb : Int), .int .u64 (s.qn : Int), .int .i64 s.at_, .int .i64 s.fr, .int .i64 s.tq] 29 26
  have HV0 : Hid (∀ V, Below W0.heap.size W0 V → V.rangeAt w.heap.size 0 [.int .u64 (x.m.qb : Int), .int .u64 (x.m.qn : Int), .int .i64 x.m.at_, .int .i64 x.m.fr, .int .i64 x.m.tq, .slice q x.b.length c, .int .u64 (x.a : Int)] ∧ V.rangeAt (w.heap.size + 1) 0 [.int .u64 (s.qb : Int), .int .u64 (s.qn : Int), .int .i64 s.at_, .int .i64 s.fr, .int .i64 s.tq] ∧ Below w.heap.size w V ∧ rOut K V [.int .u64 (x.m.qb : Int), .int .u64 (x.m.qn : Int), .int .i64 x.m.at_, .int .i64 x.m.fr, .int .i64 x.m.tq, .slice q x.b.length c, .int .u64 (x.a : Int)] x ∧ ListIs rRow 1 24 K V (.slice qr rows.length cr) rows ∧ ∀ b, K b → b < V.heap.size) := fun V hb => by
    have hbw := hb0.trans (hb.mono hb0.size)
    exact ⟨range_box (cl := [.int .u64 (x.m.qb : Int), .int .u64 (x.m.qn : Int), .int .i64 x.m.at_, .int .i64 x.m.fr, .int .i64 x.m.tq, .slice q x.b.length c, .int .u64 (x.a : Int)]) g0 hb, range_box (cl := [.int .u64 (s.qb : Int), .int .u64 (s.qn : Int), .int .i64 s.at_, .int .i64 s.fr, .int .i64 s.tq]) g1 hb, hbw, mOut _ _ _ _ _ _ (fun _ h => h) (kept_of hK hbw) h, hr.mono mRow (fun _ h => h) (kept_of hK hbw), fun b hb' => Nat.lt_of_lt_of_le (hK b hb') hbw.size⟩
  have HOS : Hid (okS s ∧ seq < 18446744073709551616) := ⟨hs, hq⟩
  obtain ⟨v1, v2, v3, v4, v5, v6⟩ := HV0.out W0 (Below.refl _ _)
  have C0 : Hid (Calls Try.prog 5 #[.agg #[.int .u64 (x.m.qb : Int), .int .u64 (x.m.qn : Int), .int .i64 x.m.at_, .int .i64 x.m.fr, .int .i64 x.m.tq, .slice q x.b.length c, .int .u64 (x.a : Int)]] W0 fun e w' => ∃ cs', e = .returned (asV cs') ∧ rOut (From W0.heap.size w') w' cs' x ∧ Below W0.heap.size W0 w') := copyOut_any K W0 [.int .u64 (x.m.qb : Int), .int .u64 (x.m.qn : Int), .int .i64 x.m.at_, .int .i64 x.m.fr, .int .i64 x.m.tq, .slice q x.b.length c, .int .u64 (x.a : Int)] x v4 v6
  have R0 := hid v1
  clear h hs hr hq hK hl hcap hby hok hb0 hs0 g0 g1 hrb v1 v2 v3 v4 v5 v6
  go_enter Try.func3, Try.ntmps3
  go_wp2_with (refine wpList_load_mid rfl 29 _ rfl w.heap.size 0 rfl _ _ R0.out Try.underlying29 rfl sz_Out ?_)
  refine C0.out.mono ?_
  rintro e w1 ⟨cs1, rfl, hr1, hb1⟩
  obtain ⟨q1, c1, rfl, _⟩ := out_cells hr1
  rw [show asV [.int .u64 (x.m.qb : Int), .int .u64 (x.m.qn : Int), .int .i64 x.m.at_, .int .i64 x.m.fr, .int .i64 x.m.tq, .slice q1 x.b.length c1, .int .u64 (x.a : Int)] = Value.agg #[.int .u64 (x.m.qb : Int), .int .u64 (x.m.qn : Int), .int .i64 x.m.at_, .int .i64 x.m.fr, .int .i64 x.m.tq, .slice q1 x.b.length c1, .int .u64 (x.a : Int)] from rfl]
  obtain ⟨V1, hV1⟩ : ∃ V1, w1.alloc (.cells #[.int .u64 (x.m.qb : Int), .int .u64 (x.m.qn : Int), .int .i64 x.m.at_, .int .i64 x.m.fr, .int .i64 x.m.tq, .slice q1 x.b.length c1, .int .u64 (x.a : Int)] 29) = V1 := ⟨_, rfl⟩
  have HV1 : Hid (∀ V, Below V1.heap.size V1 V → V.rangeAt w1.heap.size 0 [.int .u64 (x.m.qb : Int), .int .u64 (x.m.qn : Int), .int .i64 x.m.at_, .int .i64 x.m.fr, .int .i64 x.m.tq, .slice q1 x.b.length c1, .int .u64 (x.a : Int)] ∧ rOut (From W0.heap.size w1) V [.int .u64 (x.m.qb : Int), .int .u64 (x.m.qn : Int), .int .i64 x.m.at_, .int .i64 x.m.fr, .int .i64 x.m.tq, .slice q1 x.b.length c1, .int .u64 (x.a : Int)] x ∧ (∀ b, From W0.heap.size w1 b → b < V.heap.size) ∧ Below W0.heap.size W0 V) := fun V hb => by
    have hbV : Below w1.heap.size w1 V1 := by rw [← hV1]; exact (Below.refl _ _).alloc (Nat.le_refl _) _
    have hgV : V1.heap[w1.heap.size]? = some (.cells #[.int .u64 (x.m.qb : Int), .int .u64 (x.m.qn : Int), .int .i64 x.m.at_, .int .i64 x.m.fr, .int .i64 x.m.tq, .slice q1 x.b.length c1, .int .u64 (x.a : Int)] 29 (0, 0)) := by rw [← hV1]; exact heap_alloc_new w1 _
    have hbw := hbV.trans (hb.mono hbV.size)
    exact ⟨range_box (cl := [.int .u64 (x.m.qb : Int), .int .u64 (x.m.qn : Int), .int .i64 x.m.at_, .int .i64 x.m.fr, .int .i64 x.m.tq, .slice q1 x.b.length c1, .int .u64 (x.a : Int)]) hgV hb, mOut _ _ _ _ _ _ (fun _ h => h) (kept_of From.lt hbw) hr1, fun b hb' => Nat.lt_of_lt_of_le hb'.2 hbw.size, hb1.trans (hbw.mono hb1.size)⟩
  obtain ⟨O, hO⟩ : ∃ O : Ot, (if 4096 < rows.length then (⟨⟨0, 0, 0, 0, 0⟩, [], 0⟩ : Ot) else ⟨s, chunkP rows, 0⟩) = O := ⟨_, rfl⟩
  obtain ⟨E1, hE1⟩ : ∃ E1 : Int, (if 4096 < rows.length then (3 : Int) else 0) = E1 := ⟨_, rfl⟩
  have HCR : Hid (∀ w e w', CutR w s rows e w' → ∃ cs', e = .returned (.tuple #[.agg cs'.toArray, .int .i64 E1]) ∧ rOut (From w.heap.size w') w' cs' O ∧ Below w.heap.size w w') := fun w e w' h => by
    obtain ⟨cs', h1, h2, h3⟩ := h
    rw [hE1] at h1
    rw [hO] at h2
    exact ⟨cs', h1, h2, h3⟩
  obtain ⟨y1, y2, y3, y4⟩ := HV1.out V1 (Below.refl _ _)
  obtain ⟨v1, v2, v3, v4, v5, v6⟩ := HV0.out V1 y4
  have C1 := hid (cut_any s _ rows K V1 HOS.out.1 v5 v6)
  have R1 := hid v2
  clear hr1 hb1 C0 R0 y1 y2 y3 y4 v1 v2 v3 v4 v5 v6 hO hE1 hW0
  go_wp2_with (refine wpList_load_mid rfl 26 _ rfl (w.heap.size + 1) 0 rfl _ _ R1.out Try.underlying26 rfl sz_Strm ?_)
  refine C1.out.mono ?_
  intro e w2 hcr
  obtain ⟨cs2, rfl, hr2, hb2⟩ := HCR.out _ _ _ hcr
  obtain ⟨q2, c2, rfl, _⟩ := out_cells hr2
  rw [show ([.int .u64 (O.m.qb : Int), .int .u64 (O.m.qn : Int), .int .i64 O.m.at_, .int .i64 O.m.fr, .int .i64 O.m.tq, .slice q2 O.b.length c2, .int .u64 (O.a : Int)] : List Value).toArray = #[.int .u64 (O.m.qb : Int), .int .u64 (O.m.qn : Int), .int .i64 O.m.at_, .int .i64 O.m.fr, .int .i64 O.m.tq, .slice q2 O.b.length c2, .int .u64 (O.a : Int)] from rfl]
  obtain ⟨V2, hV2⟩ : ∃ V2, w2.alloc (.cells #[.int .u64 (O.m.qb : Int), .int .u64 (O.m.qn : Int), .int .i64 O.m.at_, .int .i64 O.m.fr, .int .i64 O.m.tq, .slice q2 O.b.length c2, .int .u64 (O.a : Int)] 29) = V2 := ⟨_, rfl⟩
  have HV2 : Hid (∀ V, Below V2.heap.size V2 V → V.rangeAt w2.heap.size 0 [.int .u64 (O.m.qb : Int), .int .u64 (O.m.qn : Int), .int .i64 O.m.at_, .int .i64 O.m.fr, .int .i64 O.m.tq, .slice q2 O.b.length c2, .int .u64 (O.a : Int)] ∧ rOut (From V1.heap.size w2) V [.int .u64 (O.m.qb : Int), .int .u64 (O.m.qn : Int), .int .i64 O.m.at_, .int .i64 O.m.fr, .int .i64 O.m.tq, .slice q2 O.b.length c2, .int .u64 (O.a : Int)] O ∧ (∀ b, From V1.heap.size w2 b → b < V.heap.size) ∧ Below V1.heap.size V1 V) := fun V hb => by
    have hbV : Below w2.heap.size w2 V2 := by rw [← hV2]; exact (Below.refl _ _).alloc (Nat.le_refl _) _
    have hgV : V2.heap[w2.heap.size]? = some (.cells #[.int .u64 (O.m.qb : Int), .int .u64 (O.m.qn : Int), .int .i64 O.m.at_, .int .i64 O.m.fr, .int .i64 O.m.tq, .slice q2 O.b.length c2, .int .u64 (O.a : Int)] 29 (0, 0)) := by rw [← hV2]; exact heap_alloc_new w2 _
    have hbw := hbV.trans (hb.mono hbV.size)
    exact ⟨range_box (cl := [.int .u64 (O.m.qb : Int), .int .u64 (O.m.qn : Int), .int .i64 O.m.at_, .int .i64 O.m.fr, .int .i64 O.m.tq, .slice q2 O.b.length c2, .int .u64 (O.a : Int)]) hgV hb, mOut _ _ _ _ _ _ (fun _ h => h) (kept_of From.lt hbw) hr2, fun b hb' => Nat.lt_of_lt_of_le hb'.2 hbw.size, hb2.trans (hbw.mono hb2.size)⟩
  obtain ⟨y1, y2, y3, y4⟩ := HV2.out V2 (Below.refl _ _)
  obtain ⟨v1, v2, v3, v4, v5, v6⟩ := HV0.out V2 (HV1.out V2 y4).2.2.2
  have C2 := hid (refCut_any s _ rows K V2 HOS.out.1 v5 v6)
  have R2 := hid v2
  clear hr2 hb2 hcr C1 R1 y1 y2 y3 y4 v1 v2 v3 v4 v5 v6 hV1
  go_wp2_with (refine wpList_load_mid rfl 26 _ rfl (w.heap.size + 1) 0 rfl _ _ R2.out Try.underlying26 rfl sz_Strm ?_)
  refine C2.out.mono ?_
  intro e w3 hcr
  obtain ⟨cs3, rfl, hr3, hb3⟩ := HCR.out _ _ _ hcr
  obtain ⟨q3, c3, rfl, _⟩ := out_cells hr3
  rw [show ([.int .u64 (O.m.qb : Int), .int .u64 (O.m.qn : Int), .int .i64 O.m.at_, .int .i64 O.m.fr, .int .i64 O.m.tq, .slice q3 O.b.length c3, .int .u64 (O.a : Int)] : List Value).toArray = #[.int .u64 (O.m.qb : Int), .int .u64 (O.m.qn : Int), .int .i64 O.m.at_, .int .i64 O.m.fr, .int .i64 O.m.tq, .slice q3 O.b.length c3, .int .u64 (O.a : Int)] from rfl]
  obtain ⟨V3, hV3⟩ : ∃ V3, w3.alloc (.cells #[.int .u64 (O.m.qb : Int), .int .u64 (O.m.qn : Int), .int .i64 O.m.at_, .int .i64 O.m.fr, .int .i64 O.m.tq, .slice q3 O.b.length c3, .int .u64 (O.a : Int)] 29) = V3 := ⟨_, rfl⟩
  have HV3 : Hid (∀ V, Below V3.heap.size V3 V → V.rangeAt w3.heap.size 0 [.int .u64 (O.m.qb : Int), .int .u64 (O.m.qn : Int), .int .i64 O.m.at_, .int .i64 O.m.fr, .int .i64 O.m.tq, .slice q3 O.b.length c3, .int .u64 (O.a : Int)] ∧ rOut (From V2.heap.size w3) V [.int .u64 (O.m.qb : Int), .int .u64 (O.m.qn : Int), .int .i64 O.m.at_, .int .i64 O.m.fr, .int .i64 O.m.tq, .slice q3 O.b.length c3, .int .u64 (O.a : Int)] O ∧ (∀ b, From V2.heap.size w3 b → b < V.heap.size) ∧ Below V2.heap.size V2 V) := fun V hb => by
    have hbV : Below w3.heap.size w3 V3 := by rw [← hV3]; exact (Below.refl _ _).alloc (Nat.le_refl _) _
    have hgV : V3.heap[w3.heap.size]? = some (.cells #[.int .u64 (O.m.qb : Int), .int .u64 (O.m.qn : Int), .int .i64 O.m.at_, .int .i64 O.m.fr, .int .i64 O.m.tq, .slice q3 O.b.length c3, .int .u64 (O.a : Int)] 29 (0, 0)) := by rw [← hV3]; exact heap_alloc_new w3 _
    have hbw := hbV.trans (hb.mono hbV.size)
    exact ⟨range_box (cl := [.int .u64 (O.m.qb : Int), .int .u64 (O.m.qn : Int), .int .i64 O.m.at_, .int .i64 O.m.fr, .int .i64 O.m.tq, .slice q3 O.b.length c3, .int .u64 (O.a : Int)]) hgV hb, mOut _ _ _ _ _ _ (fun _ h => h) (kept_of From.lt hbw) hr3, fun b hb' => Nat.lt_of_lt_of_le hb'.2 hbw.size, hb3.trans (hbw.mono hb3.size)⟩
  have y4 := (HV3.out V3 (Below.refl _ _)).2.2.2
  obtain ⟨z1, z2, z3, z4⟩ := HV1.out V3 (HV2.out V3 y4).2.2.2
  have C3 := hid (sendA _ x _ V3 z2 z3)
  have R3 := hid z1
  obtain ⟨N, hN⟩ : ∃ N, (msgs x).length = N := ⟨_, rfl⟩
  have hN4 : N ≤ 4 := by rw [← hN]; exact msgs_le x
  obtain ⟨E2, hE2⟩ : ∃ E2, outE x = E2 := ⟨_, rfl⟩
  have HSN : Hid (∀ w e w', SnA w x e w' → ∃ p c, e = .returned (.tuple #[.slice p N c, .int .i64 E2]) ∧ ListIs rMg 47 640 (From w.heap.size w') w' (.slice p N c) (msgs x) ∧ Below w.heap.size w w') := fun w e w' h => by
    obtain ⟨p, c, h1, h2, h3⟩ := h
    rw [hN, hE2] at h1
    rw [hN] at h2
    exact ⟨p, c, h1, h2, h3⟩
  have HN : Hid ((msgs x).length = N) := hN
  have HE2 : Hid (outE x = E2) := hE2
  clear hr3 hb3 hcr C2 R2 y4 z1 z2 z3 z4 hV2 hN hE2 HCR
  go_wp2_with (refine wpList_load_mid rfl 29 _ rfl w1.heap.size 0 rfl _ _ R3.out Try.underlying29 rfl sz_Out ?_)
  refine C3.out.mono ?_
  intro e w4 hsn
  obtain ⟨pc, cc, rfl, hl4, hb4⟩ := HSN.out _ _ _ hsn
  have HV4 : Hid (∀ V, Below w4.heap.size w4 V → ListIs rMg 47 640 (From V3.heap.size w4) V (.slice pc N cc) (msgs x) ∧ (∀ b, From V3.heap.size w4 b → b < V.heap.size) ∧ Below V3.heap.size V3 V) := fun V hb => ⟨hl4.mono mMg (fun _ h => h) (kept_of From.lt hb), fun b hb' => Nat.lt_of_lt_of_le hb'.2 hb.size, hb4.trans (hb.mono hb4.size)⟩
  have y4 := (HV4.out w4 (Below.refl _ _)).2.2
  obtain ⟨v1, v2, v3, v4, v5, v6⟩ := HV0.out w4 (HV1.out w4 (HV2.out w4 (HV3.out w4 y4).2.2.2).2.2.2).2.2.2
  have C4 := hid (refSendA _ x _ w4 v4 v6)
  have R4 := hid v1
  clear hl4 hb4 hsn C3 R3 y4 v1 v2 v3 v4 v5 v6 hV3
  go_wp2_with (refine wpList_load_mid rfl 29 _ rfl w.heap.size 0 rfl _ _ R4.out Try.underlying29 rfl sz_Out ?_)
  refine C4.out.mono ?_
  intro e w5 hsn
  obtain ⟨pd, cd, rfl, hl5, hb5⟩ := HSN.out _ _ _ hsn
  have HV5 : Hid (∀ V, Below w5.heap.size w5 V → ListIs rMg 47 640 (From w4.heap.size w5) V (.slice pd N cd) (msgs x) ∧ (∀ b, From w4.heap.size w5 b → b < V.heap.size) ∧ Below w4.heap.size w4 V) := fun V hb => ⟨hl5.mono mMg (fun _ h => h) (kept_of From.lt hb), fun b hb' => Nat.lt_of_lt_of_le hb'.2 hb.size, hb5.trans (hb.mono hb5.size)⟩
  have HBK : Hid (∀ V, Below w5.heap.size w5 V → Below V3.heap.size V3 V ∧ Below V2.heap.size V2 V ∧ Below V1.heap.size V1 V ∧ Below W0.heap.size W0 V) := fun V hb => by
    have e3 := (HV4.out V (HV5.out V hb).2.2).2.2
    have e2 := (HV3.out V e3).2.2.2
    have e1 := (HV2.out V e2).2.2.2
    exact ⟨e3, e2, e1, (HV1.out V e1).2.2.2⟩
  have C5 := hid (lives_any w5)
  clear hl5 hb5 hsn C4 R4 HSN
  go_wp2_with fail
  refine C5.out.mono ?_
  rintro e w6 ⟨rfl, hb6⟩
  obtain ⟨e3, e2, e1, e0⟩ := HBK.out w6 hb6
  obtain ⟨y1, y2, y3, _⟩ := HV2.out w6 e2
  obtain ⟨z1, z2, z3, _⟩ := HV3.out w6 e3
  have C6 : Hid (Calls Try.prog 11 #[.agg #[.int .u64 (O.m.qb : Int), .int .u64 (O.m.qn : Int), .int .i64 O.m.at_, .int .i64 O.m.fr, .int .i64 O.m.tq, .slice q2 O.b.length c2, .int .u64 (O.a : Int)], .agg #[.int .u64 (O.m.qb : Int), .int .u64 (O.m.qn : Int), .int .i64 O.m.at_, .int .i64 O.m.fr, .int .i64 O.m.tq, .slice q3 O.b.length c3, .int .u64 (O.a : Int)]] w6 fun e w' => e = .returned (.bool true) ∧ Below w6.heap.size w6 w') := sameOut_eq _ _ O _ _ w6 y2 z2 y3 z3
  have R5 := hid y1
  have R6 := hid z1
  have HB6 : Hid (Below w5.heap.size w5 w6) := hb6
  have t1 : (E1 != E1) = false := by simp
  have t2 : (E2 != E2) = false := by simp
  have t3 : ((N : Int) != (N : Int)) = false := by simp
  clear C5 hb6 e0 e1 e2 e3 y1 y2 y3 z1 z2 z3
  go_wp2_with (first | (refine wpList_load_midH (by rfl) 29 _ rfl w2.heap.size 0 rfl _ _ R5.out Try.underlying29 rfl sz_Out ?_) | (refine wpList_load_midH (by rfl) 29 _ rfl w3.heap.size 0 rfl _ _ R6.out Try.underlying29 rfl sz_Out ?_))
  refine C6.out.mono ?_
  rintro e w7 ⟨rfl, hb7⟩
  have HB7 : Hid (Below w5.heap.size w5 w7) := HB6.out.trans (hb7.mono HB6.out.size)
  clear C6 R5 R6 HB6 hb7
  go_wp2_with fail
  clear t1 t2 t3
  go_loopg [70] N (fun gf s70 wx => ∃ i : Nat, s70 = .int .i64 i ∧ i ≤ N ∧ N ≤ i + gf ∧ Hid (Below w5.heap.size w5 wx))
  case atStart => exact ⟨0, rfl, by omega, by omega, HB7⟩
  case round =>
    clear HB7
    obtain ⟨i, rfl, hi1, hgf, HB⟩ := hrel
    by_cases hi : i < N
    · obtain ⟨g', rfl⟩ : ∃ g', gk = g' + 1 := ⟨gk - 1, by omega⟩
      have z0 : (0 : Int) ≤ (i : Int) := by omega
      have z1 : (i : Int) < (N : Int) := by omega
      have L5 := HV5.out wr HB.out
      have L4 := HV4.out wr L5.2.2
      obtain ⟨b1, o1, cl1, rfl, hK1, hr1, hl1, hm1⟩ := msg_at L4.1 i (by rw [HN.out]; exact hi)
      obtain ⟨b2, o2, cl2, rfl, hK2, hr2, hl2, hm2⟩ := msg_at L5.1 i (by rw [HN.out]; exact hi)
      obtain ⟨y, hy⟩ : ∃ y, (msgs x)[i]'(by rw [HN.out]; exact hi) = y := ⟨_, rfl⟩
      rw [hy] at hm1 hm2
      obtain ⟨qm1, cm1, hc1, _, _, lr1, _⟩ := mg_cells hm1
      obtain ⟨qm2, cm2, hc2, _, _, lr2, _⟩ := mg_cells hm2
      have cS : Hid (∀ p : LaterS wr.heap.size wr, Calls Try.prog 12 #[.agg cl1.toArray, .agg cl2.toArray] p.w fun e w' => e = .returned (.bool true) ∧ Below p.w.heap.size p.w w') := fun p => by
        rw [hc1, hc2]
        exact same_msg 4 y.m y.s y.l qm1 qm2 cm1 cm2 y.r _ _ p.w (ListIs.later mRow lr1 L4.2.1 p.h) (ListIs.later mRow lr2 L5.2.1 p.h) (fun b hb => Nat.lt_of_lt_of_le (L4.2.1 b hb) p.h.size) (fun b hb => Nat.lt_of_lt_of_le (L5.2.1 b hb) p.h.size)
      have HS : Hid (∀ p : LaterS wr.heap.size wr, p.w.rangeAt b1 (o1 + i * 47) cl1 ∧ p.w.rangeAt b2 (o2 + i * 47) cl2) := fun p => ⟨fun j u hu => (p.h.cell (p := ⟨b1, _, none⟩) (L4.2.1 b1 hK1)).trans (hr1 j u hu), fun j u hu => (p.h.cell (p := ⟨b2, _, none⟩) (L5.2.1 b2 hK2)).trans (hr2 j u hu)⟩
      have I1 : Hid ((Try.prog.info? 62).map (·.size) = some cl1.length) := by show _ = _; rw [hl1]; exact sz_Msg
      have I2 : Hid ((Try.prog.info? 62).map (·.size) = some cl2.length) := by show _ = _; rw [hl2]; exact sz_Msg
      clear L4 L5 hK1 hK2 hr1 hr2 hl1 hl2 hm1 hm2 hc1 hc2 lr1 lr2 hy
      go_wp2_with fail
      have inhL := laterInh
      refine wp_region_laterS mixedOnS (by kernel_rfl) ?_
      repeat (first
        | (refine wpQuiet_load_mid rfl 62 _ rfl b1 (o1 + i * 47) rfl cl1 _ (fun w hw => by obtain ⟨p, rfl⟩ := hw; exact (HS.out p).1) Try.underlying62 rfl I1.out ?_; simp only [Act.put, List.getElem_toArray, List.getElem_cons_zero, List.getElem_cons_succ, List.setIfInBounds_toArray, List.set_cons_zero, List.set_cons_succ])
        | (refine wpQuiet_load_mid rfl 62 _ rfl b2 (o2 + i * 47) rfl cl2 _ (fun w hw => by obtain ⟨p, rfl⟩ := hw; exact (HS.out p).2) Try.underlying62 rfl I2.out ?_; simp only [Act.put, List.getElem_toArray, List.getElem_cons_zero, List.getElem_cons_succ, List.setIfInBounds_toArray, List.set_cons_zero, List.set_cons_succ])
        | go_big_quiet_step ((go_at_call 12; exact calls_laterS (cS.out _))))
      refine wpQuiet_nil ?_
      intro w8 hw'
      obtain ⟨⟨wq, hwq⟩, hw''⟩ := hw'
      have e2 : w8 = wq := hw''
      subst e2
      have HB2 : Hid (Below w5.heap.size w5 w8) := HB.out.trans (hwq.mono HB.out.size)
      clear hw'' hwq HS cS I1 I2 HB
      go_wp2_with fail
      go_roundg g'
      case measure => omega
      case rel => exact ⟨i + 1, by go_num, by omega, by omega, HB2⟩
    · have z1 : ¬ (i : Int) < (N : Int) := by omega
      have HSall : Hid (∀ V, Below wr.heap.size wr V → V.rangeAt w.heap.size 0 [.int .u64 (x.m.qb : Int), .int .u64 (x.m.qn : Int), .int .i64 x.m.at_, .int .i64 x.m.fr, .int .i64 x.m.tq, .slice q x.b.length c, .int .u64 (x.a : Int)] ∧ V.rangeAt (w.heap.size + 1) 0 [.int .u64 (s.qb : Int), .int .u64 (s.qn : Int), .int .i64 s.at_, .int .i64 s.fr, .int .i64 s.tq] ∧ V.rangeAt w1.heap.size 0 [.int .u64 (x.m.qb : Int), .int .u64 (x.m.qn : Int), .int .i64 x.m.at_, .int .i64 x.m.fr, .int .i64 x.m.tq, .slice q1 x.b.length c1, .int .u64 (x.a : Int)]) := fun V hb => by
        obtain ⟨_, _, e1, e0⟩ := HBK.out V (HB.out.trans (hb.mono HB.out.size))
        exact ⟨(HV0.out V e0).1, (HV0.out V e0).2.1, (HV1.out V e1).1⟩
      have HXall : Hid (∀ V, Below wr.heap.size wr V → rOut K V [.int .u64 (x.m.qb : Int), .int .u64 (x.m.qn : Int), .int .i64 x.m.at_, .int .i64 x.m.fr, .int .i64 x.m.tq, .slice q x.b.length c, .int .u64 (x.a : Int)] x ∧ (∀ b, K b → b < V.heap.size) ∧ rOut (From W0.heap.size w1) V [.int .u64 (x.m.qb : Int), .int .u64 (x.m.qn : Int), .int .i64 x.m.at_, .int .i64 x.m.fr, .int .i64 x.m.tq, .slice q1 x.b.length c1, .int .u64 (x.a : Int)] x ∧ (∀ b, From W0.heap.size w1 b → b < V.heap.size) ∧ Below w.heap.size w V) := fun V hb => by
        obtain ⟨_, _, e1, e0⟩ := HBK.out V (HB.out.trans (hb.mono HB.out.size))
        obtain ⟨_, _, v3, v4, _, v6⟩ := HV0.out V e0
        obtain ⟨_, y2, y3, _⟩ := HV1.out V e1
        exact ⟨v4, v6, y2, y3, v3⟩
      have HMs : Hid ((E2 == E2) = true) := by show _ = _; simp
      clear HBK HB
      go_wp2_with fail
      obtain ⟨w8, hw8⟩ : ∃ w8, wr.drew = w8 := ⟨_, rfl⟩
      have hb8 : Below wr.heap.size wr w8 := by rw [← hw8]; exact (Below.refl _ _).drew
      have C13 : Hid (Calls Try.prog 13 #[.agg #[.int .u64 (x.m.qb : Int), .int .u64 (x.m.qn : Int), .int .i64 x.m.at_, .int .i64 x.m.fr, .int .i64 x.m.tq, .slice q1 x.b.length c1, .int .u64 (x.a : Int)], .agg #[.int .u64 (s.qb : Int), .int .u64 (s.qn : Int), .int .i64 s.at_, .int .i64 s.fr, .int .i64 s.tq], .int .u64 (seq : Int)] w8 fun e w' => ∃ cs', e = .returned (.agg cs'.toArray) ∧ rOut (From w8.heap.size w') w' cs' (ackP x s seq) ∧ Below w8.heap.size w8 w') := acked_any _ x s seq _ w8 (HXall.out w8 hb8).2.2.1 HOS.out.1 HOS.out.2 (HXall.out w8 hb8).2.2.2.1
      have HB8 := hid hb8
      refine wp_region_held_drew (S := fun V => V.rangeAt w.heap.size 0 [.int .u64 (x.m.qb : Int), .int .u64 (x.m.qn : Int), .int .i64 x.m.at_, .int .i64 x.m.fr, .int .i64 x.m.tq, .slice q x.b.length c, .int .u64 (x.a : Int)] ∧ V.rangeAt (w.heap.size + 1) 0 [.int .u64 (s.qb : Int), .int .u64 (s.qn : Int), .int .i64 s.at_, .int .i64 s.fr, .int .i64 s.tq] ∧ V.rangeAt w1.heap.size 0 [.int .u64 (x.m.qb : Int), .int .u64 (x.m.qn : Int), .int .i64 x.m.at_, .int .i64 x.m.fr, .int .i64 x.m.tq, .slice q1 x.b.length c1, .int .u64 (x.a : Int)]) (by kernel_rfl) (by rw [hw8]; exact HSall.out w8 hb8) (fun hHeld => ?_)
      refine wpAnyH_take (i := 0) (v := .agg #[.int .u64 (x.m.qb : Int), .int .u64 (x.m.qn : Int), .int .i64 x.m.at_, .int .i64 x.m.fr, .int .i64 x.m.tq, .slice q1 x.b.length c1, .int .u64 (x.a : Int)]) rfl (by kernel_rfl) (by kernel_rfl) (by kernel_rfl) (fun _ _ _ h => h) (yieldsIf_load_mid (by rfl) 29 (.tmp 9) rfl w1.heap.size 0 rfl [.int .u64 (x.m.qb : Int), .int .u64 (x.m.qn : Int), .int .i64 x.m.at_, .int .i64 x.m.fr, .int .i64 x.m.tq, .slice q1 x.b.length c1, .int .u64 (x.a : Int)] _ (fun W hW => hW.2.2) Try.underlying29 rfl sz_Out) hHeld ?_
      simp only [Act.put, List.getElem_toArray, List.getElem_cons_zero, List.getElem_cons_succ, List.setIfInBounds_toArray, List.set_cons_zero, List.set_cons_succ]
      refine wpAnyH_take (i := 1) (v := .agg #[.int .u64 (s.qb : Int), .int .u64 (s.qn : Int), .int .i64 s.at_, .int .i64 s.fr, .int .i64 s.tq]) rfl (by kernel_rfl) (by kernel_rfl) (by kernel_rfl) (fun _ _ _ h => h) (yieldsIf_load_mid (by rfl) 26 (.tmp 5) rfl (w.heap.size + 1) 0 rfl [.int .u64 (s.qb : Int), .int .u64 (s.qn : Int), .int .i64 s.at_, .int .i64 s.fr, .int .i64 s.tq] _ (fun W hW => hW.2.1) Try.underlying26 rfl sz_Strm) hHeld ?_
      simp only [Act.put, List.getElem_toArray, List.getElem_cons_zero, List.getElem_cons_succ, List.setIfInBounds_toArray, List.set_cons_zero, List.set_cons_succ]
      refine wpAnyH_take (i := 2) (v := .int .u64 (seq : Int)) rfl (by kernel_rfl) (by kernel_rfl) (by kernel_rfl) (fun _ _ _ h => h) (.inl ⟨by rfl, fun W hW => by go_simp⟩) hHeld ?_
      simp only [Act.put, List.getElem_toArray, List.getElem_cons_zero, List.getElem_cons_succ, List.setIfInBounds_toArray, List.set_cons_zero, List.set_cons_succ]
      refine wpAnyH_take (i := 4) (v := .agg #[.int .u64 (x.m.qb : Int), .int .u64 (x.m.qn : Int), .int .i64 x.m.at_, .int .i64 x.m.fr, .int .i64 x.m.tq, .slice q x.b.length c, .int .u64 (x.a : Int)]) rfl (by kernel_rfl) (by kernel_rfl) (by kernel_rfl) (fun _ _ _ h => h) (yieldsIf_load_mid (by rfl) 29 (.tmp 4) rfl w.heap.size 0 rfl [.int .u64 (x.m.qb : Int), .int .u64 (x.m.qn : Int), .int .i64 x.m.at_, .int .i64 x.m.fr, .int .i64 x.m.tq, .slice q x.b.length c, .int .u64 (x.a : Int)] _ (fun W hW => hW.1) Try.underlying29 rfl sz_Out) hHeld ?_
      simp only [Act.put, List.getElem_toArray, List.getElem_cons_zero, List.getElem_cons_succ, List.setIfInBounds_toArray, List.set_cons_zero, List.set_cons_succ]
      refine wpAnyH_take (i := 5) (v := .agg #[.int .u64 (s.qb : Int), .int .u64 (s.qn : Int), .int .i64 s.at_, .int .i64 s.fr, .int .i64 s.tq]) rfl (by kernel_rfl) (by kernel_rfl) (by kernel_rfl) (fun _ _ _ h => h) (yieldsIf_load_mid (by rfl) 26 (.tmp 5) rfl (w.heap.size + 1) 0 rfl [.int .u64 (s.qb : Int), .int .u64 (s.qn : Int), .int .i64 s.at_, .int .i64 s.fr, .int .i64 s.tq] _ (fun W hW => hW.2.1) Try.underlying26 rfl sz_Strm) hHeld ?_
      simp only [Act.put, List.getElem_toArray, List.getElem_cons_zero, List.getElem_cons_succ, List.setIfInBounds_toArray, List.set_cons_zero, List.set_cons_succ]
      refine wpAnyH_take (i := 6) (v := .int .u64 (seq : Int)) rfl (by kernel_rfl) (by kernel_rfl) (by kernel_rfl) (fun _ _ _ h => h) (.inl ⟨by rfl, fun W hW => by go_simp⟩) hHeld ?_
      simp only [Act.put, List.getElem_toArray, List.getElem_cons_zero, List.getElem_cons_succ, List.setIfInBounds_toArray, List.set_cons_zero, List.set_cons_succ]
      rw [hw8] at hHeld ⊢
      clear hw8 hb8
      refine wpAnyH_ready (rs := [3]) (by kernel_rfl) (by simp) ?_
      refine AllReadyH.cons rfl (fun K' hK => ?_) AllReadyH.nil
      rw [if_pos (by rfl)]
      go_simp
      go_at_call 13
      refine C13.out.mono ?_
      rintro e w9 ⟨csa, rfl, hra, hba⟩
      have HB9 : Hid (Below wr.heap.size wr w9) := HB8.out.trans (hba.mono HB8.out.size)
      have HRA : Hid (∀ V, Below w9.heap.size w9 V → rOut (From w8.heap.size w9) V csa (ackP x s seq) ∧ (∀ b, From w8.heap.size w9 b → b < V.heap.size)) := fun V hb => ⟨mOut _ _ _ _ _ _ (fun _ h => h) (kept_of From.lt hb) hra, fun b hb' => Nat.lt_of_lt_of_le hb'.2 hb.size⟩
      have C14 : Hid (Calls Try.prog 14 #[.agg #[.int .u64 (x.m.qb : Int), .int .u64 (x.m.qn : Int), .int .i64 x.m.at_, .int .i64 x.m.fr, .int .i64 x.m.tq, .slice q x.b.length c, .int .u64 (x.a : Int)], .agg #[.int .u64 (s.qb : Int), .int .u64 (s.qn : Int), .int .i64 s.at_, .int .i64 s.fr, .int .i64 s.tq], .int .u64 (seq : Int)] w9 fun e w' => ∃ cs', e = .returned (.agg cs'.toArray) ∧ rOut (From w9.heap.size w') w' cs' (ackP x s seq) ∧ Below w9.heap.size w9 w') := refAcked_any _ x s seq _ w9 (HXall.out w9 HB9.out).1 HOS.out.1 HOS.out.2 (HXall.out w9 HB9.out).2.1
      clear hra hba C13 HB8
      refine hK.out _ _ (HSall.out w9 HB9.out) (fun hHeld => ?_)
      clear hK K'
      refine wpAnyH_ready (rs := [7]) (by kernel_rfl) (by simp) ?_
      refine AllReadyH.cons rfl (fun K' hK => ?_) AllReadyH.nil
      rw [if_pos (by rfl)]
      go_simp
      go_at_call 14
      refine C14.out.mono ?_
      rintro e w10 ⟨csb, rfl, hrb, hbb⟩
      have HB10 : Hid (Below wr.heap.size wr w10) := HB9.out.trans (hbb.mono HB9.out.size)
      have C11 : Hid (Calls Try.prog 11 #[.agg csa.toArray, .agg csb.toArray] w10 fun e w' => e = .returned (.bool true) ∧ Below w10.heap.size w10 w') := sameOut_eq _ _ _ _ _ w10 (HRA.out w10 hbb).1 hrb (HRA.out w10 hbb).2 From.lt
      clear hrb hbb C14 HRA HB9
      refine hK.out _ _ (HSall.out w10 HB10.out) (fun hHeld => ?_)
      clear hK K'
      refine wpAnyH_ready (rs := [8]) (by kernel_rfl) (by simp) ?_
      refine AllReadyH.cons rfl (fun K' hK => ?_) AllReadyH.nil
      rw [if_pos (by rfl)]
      go_simp
      go_at_call 11
      refine C11.out.mono ?_
      rintro e w11 ⟨rfl, hb⟩
      have HB11 : Hid (Below wr.heap.size wr w11) := HB10.out.trans (hb.mono HB10.out.size)
      have C15 : Hid (Calls Try.prog 15 #[.agg #[.int .u64 (x.m.qb : Int), .int .u64 (x.m.qn : Int), .int .i64 x.m.at_, .int .i64 x.m.fr, .int .i64 x.m.tq, .slice q1 x.b.length c1, .int .u64 (x.a : Int)]] w11 fun e w' => e = .returned (.int .i64 E2) ∧ Below w11.heap.size w11 w') := by have := checkOut_any _ x _ w11 (HXall.out w11 HB11.out).2.2.1 (HXall.out w11 HB11.out).2.2.2.1; rw [HE2.out] at this; exact this
      clear hb C11 HB10
      refine hK.out _ _ (HSall.out w11 HB11.out) (fun hHeld => ?_)
      clear hK K'
      refine wpAnyH_take (i := 9) (v := .bool true) rfl (by kernel_rfl) (by kernel_rfl) (by kernel_rfl) (fun _ _ _ h => h) (.inl ⟨by rfl, fun W hW => by go_simp⟩) hHeld ?_
      simp only [Act.put, List.getElem_toArray, List.getElem_cons_zero, List.getElem_cons_succ, List.setIfInBounds_toArray, List.set_cons_zero, List.set_cons_succ]
      refine wpAnyH_take (i := 10) (v := .agg #[.int .u64 (x.m.qb : Int), .int .u64 (x.m.qn : Int), .int .i64 x.m.at_, .int .i64 x.m.fr, .int .i64 x.m.tq, .slice q1 x.b.length c1, .int .u64 (x.a : Int)]) rfl (by kernel_rfl) (by kernel_rfl) (by kernel_rfl) (fun _ _ _ h => h) (yieldsIf_load_mid (by rfl) 29 (.tmp 9) rfl w1.heap.size 0 rfl [.int .u64 (x.m.qb : Int), .int .u64 (x.m.qn : Int), .int .i64 x.m.at_, .int .i64 x.m.fr, .int .i64 x.m.tq, .slice q1 x.b.length c1, .int .u64 (x.a : Int)] _ (fun W hW => hW.2.2) Try.underlying29 rfl sz_Out) hHeld ?_
      simp only [Act.put, List.getElem_toArray, List.getElem_cons_zero, List.getElem_cons_succ, List.setIfInBounds_toArray, List.set_cons_zero, List.set_cons_succ]
      refine wpAnyH_take (i := 12) (v := .agg #[.int .u64 (x.m.qb : Int), .int .u64 (x.m.qn : Int), .int .i64 x.m.at_, .int .i64 x.m.fr, .int .i64 x.m.tq, .slice q x.b.length c, .int .u64 (x.a : Int)]) rfl (by kernel_rfl) (by kernel_rfl) (by kernel_rfl) (fun _ _ _ h => h) (yieldsIf_load_mid (by rfl) 29 (.tmp 4) rfl w.heap.size 0 rfl [.int .u64 (x.m.qb : Int), .int .u64 (x.m.qn : Int), .int .i64 x.m.at_, .int .i64 x.m.fr, .int .i64 x.m.tq, .slice q x.b.length c, .int .u64 (x.a : Int)] _ (fun W hW => hW.1) Try.underlying29 rfl sz_Out) hHeld ?_
      simp only [Act.put, List.getElem_toArray, List.getElem_cons_zero, List.getElem_cons_succ, List.setIfInBounds_toArray, List.set_cons_zero, List.set_cons_succ]
      refine wpAnyH_ready (rs := [11]) (by kernel_rfl) (by simp) ?_
      refine AllReadyH.cons rfl (fun K' hK => ?_) AllReadyH.nil
      rw [if_pos (by rfl)]
      go_simp
      go_at_call 15
      refine C15.out.mono ?_
      rintro e w12 ⟨rfl, hb⟩
      have HB12 : Hid (Below wr.heap.size wr w12) := HB11.out.trans (hb.mono HB11.out.size)
      have C16 : Hid (Calls Try.prog 16 #[.agg #[.int .u64 (x.m.qb : Int), .int .u64 (x.m.qn : Int), .int .i64 x.m.at_, .int .i64 x.m.fr, .int .i64 x.m.tq, .slice q x.b.length c, .int .u64 (x.a : Int)]] w12 fun e w' => e = .returned (.int .i64 E2) ∧ Below w12.heap.size w12 w') := by have := refCheckOut_any _ x _ w12 (HXall.out w12 HB12.out).1 (HXall.out w12 HB12.out).2.1; rw [HE2.out] at this; exact this
      clear hb C15 HB11
      refine hK.out _ _ (HSall.out w12 HB12.out) (fun hHeld => ?_)
      clear hK K'
      refine wpAnyH_ready (rs := [13]) (by kernel_rfl) (by simp) ?_
      refine AllReadyH.cons rfl (fun K' hK => ?_) AllReadyH.nil
      rw [if_pos (by rfl)]
      go_simp
      go_at_call 16
      refine C16.out.mono ?_
      rintro e w13 ⟨rfl, hb⟩
      have HB13 : Hid (Below wr.heap.size wr w13) := HB12.out.trans (hb.mono HB12.out.size)
      have C11 : Hid (Calls Try.prog 11 #[.agg #[.int .u64 (x.m.qb : Int), .int .u64 (x.m.qn : Int), .int .i64 x.m.at_, .int .i64 x.m.fr, .int .i64 x.m.tq, .slice q1 x.b.length c1, .int .u64 (x.a : Int)], .agg #[.int .u64 (x.m.qb : Int), .int .u64 (x.m.qn : Int), .int .i64 x.m.at_, .int .i64 x.m.fr, .int .i64 x.m.tq, .slice q x.b.length c, .int .u64 (x.a : Int)]] w13 fun e w' => e = .returned (.bool true) ∧ Below w13.heap.size w13 w') := sameOut_eq _ _ x _ _ w13 (HXall.out w13 HB13.out).2.2.1 (HXall.out w13 HB13.out).1 (HXall.out w13 HB13.out).2.2.2.1 (HXall.out w13 HB13.out).2.1
      clear hb C16 HB12
      have hEE := HMs.out
      refine hK.out _ _ (HSall.out w13 HB13.out) (fun hHeld => ?_)
      clear hK K'
      refine wpAnyH_take (i := 14) (v := .bool true) rfl (by kernel_rfl) (by kernel_rfl) (by kernel_rfl) (fun _ _ _ h => h) (.inl ⟨by rfl, fun W hW => by go_simp⟩) hHeld ?_
      simp only [Act.put, List.getElem_toArray, List.getElem_cons_zero, List.getElem_cons_succ, List.setIfInBounds_toArray, List.set_cons_zero, List.set_cons_succ]
      refine wpAnyH_take (i := 15) (v := .bool true) rfl (by kernel_rfl) (by kernel_rfl) (by kernel_rfl) (fun _ _ _ h => h) (.inl ⟨by rfl, fun W hW => by go_simp⟩) hHeld ?_
      simp only [Act.put, List.getElem_toArray, List.getElem_cons_zero, List.getElem_cons_succ, List.setIfInBounds_toArray, List.set_cons_zero, List.set_cons_succ]
      refine wpAnyH_take (i := 16) (v := .bool true) rfl (by kernel_rfl) (by kernel_rfl) (by kernel_rfl) (fun _ _ _ h => h) (.inl ⟨by rfl, fun W hW => by go_simp⟩) hHeld ?_
      simp only [Act.put, List.getElem_toArray, List.getElem_cons_zero, List.getElem_cons_succ, List.setIfInBounds_toArray, List.set_cons_zero, List.set_cons_succ]
      refine wpAnyH_take (i := 17) (v := .agg #[.int .u64 (x.m.qb : Int), .int .u64 (x.m.qn : Int), .int .i64 x.m.at_, .int .i64 x.m.fr, .int .i64 x.m.tq, .slice q1 x.b.length c1, .int .u64 (x.a : Int)]) rfl (by kernel_rfl) (by kernel_rfl) (by kernel_rfl) (fun _ _ _ h => h) (yieldsIf_load_mid (by rfl) 29 (.tmp 9) rfl w1.heap.size 0 rfl [.int .u64 (x.m.qb : Int), .int .u64 (x.m.qn : Int), .int .i64 x.m.at_, .int .i64 x.m.fr, .int .i64 x.m.tq, .slice q1 x.b.length c1, .int .u64 (x.a : Int)] _ (fun W hW => hW.2.2) Try.underlying29 rfl sz_Out) hHeld ?_
      simp only [Act.put, List.getElem_toArray, List.getElem_cons_zero, List.getElem_cons_succ, List.setIfInBounds_toArray, List.set_cons_zero, List.set_cons_succ]
      refine wpAnyH_take (i := 18) (v := .agg #[.int .u64 (x.m.qb : Int), .int .u64 (x.m.qn : Int), .int .i64 x.m.at_, .int .i64 x.m.fr, .int .i64 x.m.tq, .slice q x.b.length c, .int .u64 (x.a : Int)]) rfl (by kernel_rfl) (by kernel_rfl) (by kernel_rfl) (fun _ _ _ h => h) (yieldsIf_load_mid (by rfl) 29 (.tmp 4) rfl w.heap.size 0 rfl [.int .u64 (x.m.qb : Int), .int .u64 (x.m.qn : Int), .int .i64 x.m.at_, .int .i64 x.m.fr, .int .i64 x.m.tq, .slice q x.b.length c, .int .u64 (x.a : Int)] _ (fun W hW => hW.1) Try.underlying29 rfl sz_Out) hHeld ?_
      simp only [Act.put, List.getElem_toArray, List.getElem_cons_zero, List.getElem_cons_succ, List.setIfInBounds_toArray, List.set_cons_zero, List.set_cons_succ]
      refine wpAnyH_ready (rs := [19]) (by kernel_rfl) (by simp) ?_
      refine AllReadyH.cons rfl (fun K' hK => ?_) AllReadyH.nil
      rw [if_pos (by rfl)]
      go_simp
      go_at_call 11
      refine C11.out.mono ?_
      rintro e w14 ⟨rfl, hb⟩
      have HB14 : Hid (Below wr.heap.size wr w14) := HB13.out.trans (hb.mono HB13.out.size)
      clear hb C11 HB13
      refine hK.out _ _ (HSall.out w14 HB14.out) (fun hHeld => ?_)
      clear hK K'
      refine wpAnyH_take (i := 20) (v := .bool true) rfl (by kernel_rfl) (by kernel_rfl) (by kernel_rfl) (fun _ _ _ h => h) (.inl ⟨by rfl, fun W hW => by go_simp⟩) hHeld ?_
      simp only [Act.put, List.getElem_toArray, List.getElem_cons_zero, List.getElem_cons_succ, List.setIfInBounds_toArray, List.set_cons_zero, List.set_cons_succ]
      refine wpAnyH_ready (rs := [21]) (by kernel_rfl) (by simp) ?_
      refine AllReadyH.cons rfl (fun K' hK => ?_) AllReadyH.nil
      rw [if_pos (by rfl)]
      go_simp
      refine hK.out _ _ (HSall.out w14 HB14.out) (fun hHeld => ?_)
      clear hK K'
      refine wpAnyH_done (by kernel_rfl) ?_ _
      have HF : Hid (Below w.heap.size w w14) := (HXall.out w14 HB14.out).2.2.2.2
      clear hHeld HSall HXall
      go_wp2_with fail
      go_ret
      exact ⟨rfl, HF.out⟩
end Go.Proofs.Ytcmiphgeakdonaa
