/- The law NetDoes returns true, of any net, nodes, text and place. -/
import Derived.Test.YtnfgfbmkeiimlaaNu
namespace Go.Proofs.Ytnfgfbmkeiimlaa
open Go.Shelf Go.RowKit Go.Lib Go.Sort
set_option linter.unusedVariables false
set_option linter.unusedSimpArgs false
attribute [local go_sem ↓] Go.wp_at_zero Go.wp_at_succ
set_option maxRecDepth 100000 in
set_option maxHeartbeats 8000000 in
theorem does_core (v : Value) (f t : Int) (x : ByteArray) (i : Int) (ps : List PK) (w : World) (h : PsL w v ps) (hxs : x.size ≤ 140737488355328) :
    Calls Try.prog 3 #[.agg #[v], .int .i64 f, .int .i64 t, .string x, .int .i64 i] w fun e w' => e = .returned (.bool true) ∧ Below w.heap.size w w' := by
  obtain ⟨W0, hW0, hb0, hs0, hx⟩ := box24 w v
  have HX : Hid (∀ W, Below W0.heap.size W0 W → W.cell? ⟨w.heap.size, 0, none⟩ = some v) := hx
  have HB0 : Hid (Below w.heap.size w W0) := hb0
  have HL : Hid (∀ W, Below w.heap.size w W → PsL W v ps) := fun W hb => h.below hb
  have CL : Hid (∀ W, Calls Try.prog 16 #[] W fun e w' => e = .returned (.bool true) ∧ Below W.heap.size W w') := lives_any
  have CO : Hid (Calls Try.prog 7 #[.agg #[v]] W0 fun e w' => NetO ps W0 e w') := refOwn_any v ps W0 (h.below hb0)
  have CS : Hid (∀ (fs : List PK) p q c c' W, PsL W (.slice p fs.length c) fs → PsL W (.slice q fs.length c') fs → Calls Try.prog 17 #[.agg #[.slice p fs.length c], .agg #[.slice q fs.length c']] W fun e w' => e = .returned (.bool true) ∧ Below W.heap.size W w') := fun fs p q c c' W h1 h2 => Same_eq p q c c' fs W h1 h2
  have CK : Hid (∀ p c W, PsL W (.slice p ps.length c) ps → Calls Try.prog 18 #[.agg #[.slice p ps.length c]] W fun e w' => e = .returned (.int .i64 (chN ps)) ∧ Below W.heap.size W w') := fun p c W h => check_any _ ps W h
  have CQ : Hid (∀ p c W, PsL W (.slice p ps.length c) ps → Calls Try.prog 19 #[.agg #[.slice p ps.length c]] W fun e w' => e = .returned (.int .i64 (chN ps)) ∧ Below W.heap.size W w') := fun p c W h => refCheck_any _ ps W h
  have Ca : Hid (∀ p c W, PsL W (.slice p ps.length c) ps → Calls Try.prog 8 #[.agg #[.slice p ps.length c], .int .i64 f, .int .i64 t, .string x] W fun e w' => NetE (sndP ps f t x) (refE ps f t x) W e w') := fun p c W h => Send_any _ f t x ps W h
  have Cb : Hid (∀ p c W, PsL W (.slice p ps.length c) ps → Calls Try.prog 9 #[.agg #[.slice p ps.length c], .int .i64 f, .int .i64 t, .string x] W fun e w' => NetE (sndP ps f t x) (refE ps f t x) W e w') := fun p c W h => refSend_any _ f t x ps W h
  have Cc : Hid (∀ p c W, PsL W (.slice p ps.length c) ps → Calls Try.prog 10 #[.agg #[.slice p ps.length c], .int .i64 i] W fun e w' => NetP (dlvP ps i) (dlvK ps i) (misE ps i) W e w') := fun p c W h => Deliver_any _ i ps W h
  have Cd : Hid (∀ p c W, PsL W (.slice p ps.length c) ps → Calls Try.prog 11 #[.agg #[.slice p ps.length c], .int .i64 i] W fun e w' => NetP (dlvP ps i) (dlvK ps i) (misE ps i) W e w') := fun p c W h => refDeliver_any _ i ps W h
  have Ce : Hid (∀ p c W, PsL W (.slice p ps.length c) ps → Calls Try.prog 12 #[.agg #[.slice p ps.length c], .int .i64 i] W fun e w' => NetE (dlvP ps i) (misE ps i) W e w') := fun p c W h => Drop_any _ i ps W h
  have Cf : Hid (∀ p c W, PsL W (.slice p ps.length c) ps → Calls Try.prog 13 #[.agg #[.slice p ps.length c], .int .i64 i] W fun e w' => NetE (dlvP ps i) (misE ps i) W e w') := fun p c W h => refDrop_any _ i ps W h
  have Cg : Hid (∀ p c W, PsL W (.slice p ps.length c) ps → Calls Try.prog 14 #[.agg #[.slice p ps.length c], .int .i64 i] W fun e w' => NetE (cpyP ps i) (cpyE ps i) W e w') := fun p c W h => Copy_any _ i ps W h
  have Ch : Hid (∀ p c W, PsL W (.slice p ps.length c) ps → Calls Try.prog 15 #[.agg #[.slice p ps.length c], .int .i64 i] W fun e w' => NetE (cpyP ps i) (cpyE ps i) W e w') := fun p c W h => refCopy_any _ i ps W h
  obtain ⟨sa, hsa⟩ : ∃ s, sndP ps f t x = s := ⟨_, rfl⟩
  obtain ⟨sd, hsd⟩ : ∃ s, dlvP ps i = s := ⟨_, rfl⟩
  obtain ⟨sc, hsc⟩ : ∃ s, cpyP ps i = s := ⟨_, rfl⟩
  obtain ⟨⟨kf, kt, kx⟩, hkd⟩ : ∃ k, dlvK ps i = k := ⟨_, rfl⟩
  obtain ⟨ea, hea⟩ : ∃ e, refE ps f t x = e := ⟨_, rfl⟩
  obtain ⟨ed, hed⟩ : ∃ e, misE ps i = e := ⟨_, rfl⟩
  obtain ⟨ec, hec⟩ : ∃ e, cpyE ps i = e := ⟨_, rfl⟩
  obtain ⟨ch, hch⟩ : ∃ e, chN ps = e := ⟨_, rfl⟩
  rw [hsa, hea] at Ca Cb
  rw [hsd, hkd, hed] at Cc Cd
  rw [hsd, hed] at Ce Cf
  rw [hsc, hec] at Cg Ch
  rw [hch] at CK CQ
  have hmany := h.many
  have HSM : Hid (SmallP ps) := h.small
  have x0 := hx W0 (Below.refl _ _)
  obtain ⟨p, c, rfl, _⟩ := h
  clear hsa hsd hsc hkd hea hed hec hch hx hb0 hs0
  go_enter Try.func3, Try.ntmps3
  go_wp2_with fail
  refine CO.out.mono ?_
  rintro e w0 ⟨p0, c0, rfl, ho0, hb0⟩
  obtain ⟨V0, hV0⟩ : ∃ V0, w0.alloc (.cells #[.slice p0 ps.length c0] 24) = V0 := ⟨_, rfl⟩
  obtain ⟨hG0, hbV0⟩ := BoxI.new (ho0.packs hmany HSM.out) hV0
  have HD0 : Hid (Below W0.heap.size W0 V0) := hb0.trans (hbV0.mono hb0.size)
  have HIG0 : Hid (BoxI w0.heap.size p0 c0 ps V0) := hG0
  clear CO hb0 ho0 hG0 hbV0 x0
  have gc := HIG0.out.cell
  have xc := HX.out V0 HD0.out
  have K1 := Ca.out p0 c0 V0 HIG0.out.2
  clear Ca
  go_wp2_with fail
  refine K1.mono ?_
  rintro e w1 ⟨p1, c1, rfl, hl, hn, hb⟩
  obtain ⟨V1, hV1⟩ : ∃ V, w1.alloc (.cells #[.slice p1 sa.length c1] 24) = V := ⟨_, rfl⟩
  obtain ⟨hI, hbV⟩ := BoxI.new hl hV1
  have hbb : Below V0.heap.size V0 V1 := hb.trans (hbV.mono hb.size)
  have HD1 : Hid (Below W0.heap.size W0 V1) := HD0.out.trans (hbb.mono HD0.out.size)
  have HIG1 : Hid (BoxI w0.heap.size p0 c0 ps V1) := HIG0.out.below hbb
  have HIa1 : Hid (BoxI w1.heap.size p1 c1 sa V1) := hI
  clear K1 hl hn hb hI hbV hbb gc xc HD0 HIG0
  have gc := HIG1.out.cell
  have xc := HX.out V1 HD1.out
  have K2 := Cb.out p c V1 (HL.out V1 (HB0.out.trans (HD1.out.mono HB0.out.size)))
  clear Cb
  go_wp2_with fail
  refine K2.mono ?_
  rintro e w2 ⟨p2, c2, rfl, hl, hn, hb⟩
  obtain ⟨V2, hV2⟩ : ∃ V, w2.alloc (.cells #[.slice p2 sa.length c2] 24) = V := ⟨_, rfl⟩
  obtain ⟨hI, hbV⟩ := BoxI.new hl hV2
  have hbb : Below V1.heap.size V1 V2 := hb.trans (hbV.mono hb.size)
  have HD2 : Hid (Below W0.heap.size W0 V2) := HD1.out.trans (hbb.mono HD1.out.size)
  have HIG2 : Hid (BoxI w0.heap.size p0 c0 ps V2) := HIG1.out.below hbb
  have HIa2 : Hid (BoxI w1.heap.size p1 c1 sa V2) := HIa1.out.below hbb
  have HIb2 : Hid (BoxI w2.heap.size p2 c2 sa V2) := hI
  clear K2 hl hn hb hI hbV hbb gc xc HD1 HIG1 HIa1
  have gc := HIG2.out.cell
  have xc := HX.out V2 HD2.out
  have K3 := Cc.out p0 c0 V2 HIG2.out.2
  clear Cc
  go_wp2_with fail
  refine K3.mono ?_
  rintro e w3 ⟨p3, c3, rfl, hl, hn, hb⟩
  obtain ⟨V3, hV3⟩ : ∃ V, (w3.alloc (.cells #[.slice p3 sd.length c3] 24)).alloc (.cells #[.int .i64 kf, .int .i64 kt, .string kx] 30) = V := ⟨_, rfl⟩
  obtain ⟨hI, hKK, hbV⟩ := box_two (k := ⟨kf, kt, kx⟩) hl hV3
  have hbb : Below V2.heap.size V2 V3 := hb.trans (hbV.mono hb.size)
  have HD3 : Hid (Below W0.heap.size W0 V3) := HD2.out.trans (hbb.mono HD2.out.size)
  have HIG3 : Hid (BoxI w0.heap.size p0 c0 ps V3) := HIG2.out.below hbb
  have HIa3 : Hid (BoxI w1.heap.size p1 c1 sa V3) := HIa2.out.below hbb
  have HIb3 : Hid (BoxI w2.heap.size p2 c2 sa V3) := HIb2.out.below hbb
  have HIc3 : Hid (BoxI w3.heap.size p3 c3 sd V3) := hI
  have HKc3 : Hid (BoxK (w3.heap.size + 1) ⟨kf, kt, kx⟩ V3) := hKK
  clear K3 hl hn hb hI hbV hbb gc xc HD2 HIG2 HIa2 HIb2 hKK
  have gc := HIG3.out.cell
  have xc := HX.out V3 HD3.out
  have K4 := Cd.out p c V3 (HL.out V3 (HB0.out.trans (HD3.out.mono HB0.out.size)))
  clear Cd
  go_wp2_with fail
  refine K4.mono ?_
  rintro e w4 ⟨p4, c4, rfl, hl, hn, hb⟩
  obtain ⟨V4, hV4⟩ : ∃ V, (w4.alloc (.cells #[.slice p4 sd.length c4] 24)).alloc (.cells #[.int .i64 kf, .int .i64 kt, .string kx] 30) = V := ⟨_, rfl⟩
  obtain ⟨hI, hKK, hbV⟩ := box_two (k := ⟨kf, kt, kx⟩) hl hV4
  have hbb : Below V3.heap.size V3 V4 := hb.trans (hbV.mono hb.size)
  have HD4 : Hid (Below W0.heap.size W0 V4) := HD3.out.trans (hbb.mono HD3.out.size)
  have HIG4 : Hid (BoxI w0.heap.size p0 c0 ps V4) := HIG3.out.below hbb
  have HIa4 : Hid (BoxI w1.heap.size p1 c1 sa V4) := HIa3.out.below hbb
  have HIb4 : Hid (BoxI w2.heap.size p2 c2 sa V4) := HIb3.out.below hbb
  have HIc4 : Hid (BoxI w3.heap.size p3 c3 sd V4) := HIc3.out.below hbb
  have HKc4 : Hid (BoxK (w3.heap.size + 1) ⟨kf, kt, kx⟩ V4) := HKc3.out.below hbb
  have HId4 : Hid (BoxI w4.heap.size p4 c4 sd V4) := hI
  have HKd4 : Hid (BoxK (w4.heap.size + 1) ⟨kf, kt, kx⟩ V4) := hKK
  clear K4 hl hn hb hI hbV hbb gc xc HD3 HIG3 HIa3 HIb3 HIc3 HKc3 hKK
  have gc := HIG4.out.cell
  have xc := HX.out V4 HD4.out
  have K5 := Ce.out p0 c0 V4 HIG4.out.2
  clear Ce
  go_wp2_with fail
  refine K5.mono ?_
  rintro e w5 ⟨p5, c5, rfl, hl, hn, hb⟩
  obtain ⟨V5, hV5⟩ : ∃ V, w5.alloc (.cells #[.slice p5 sd.length c5] 24) = V := ⟨_, rfl⟩
  obtain ⟨hI, hbV⟩ := BoxI.new hl hV5
  have hbb : Below V4.heap.size V4 V5 := hb.trans (hbV.mono hb.size)
  have HD5 : Hid (Below W0.heap.size W0 V5) := HD4.out.trans (hbb.mono HD4.out.size)
  have HIG5 : Hid (BoxI w0.heap.size p0 c0 ps V5) := HIG4.out.below hbb
  have HIa5 : Hid (BoxI w1.heap.size p1 c1 sa V5) := HIa4.out.below hbb
  have HIb5 : Hid (BoxI w2.heap.size p2 c2 sa V5) := HIb4.out.below hbb
  have HIc5 : Hid (BoxI w3.heap.size p3 c3 sd V5) := HIc4.out.below hbb
  have HKc5 : Hid (BoxK (w3.heap.size + 1) ⟨kf, kt, kx⟩ V5) := HKc4.out.below hbb
  have HId5 : Hid (BoxI w4.heap.size p4 c4 sd V5) := HId4.out.below hbb
  have HKd5 : Hid (BoxK (w4.heap.size + 1) ⟨kf, kt, kx⟩ V5) := HKd4.out.below hbb
  have HIe5 : Hid (BoxI w5.heap.size p5 c5 sd V5) := hI
  clear K5 hl hn hb hI hbV hbb gc xc HD4 HIG4 HIa4 HIb4 HIc4 HKc4 HId4 HKd4
  have gc := HIG5.out.cell
  have xc := HX.out V5 HD5.out
  have K6 := Cf.out p c V5 (HL.out V5 (HB0.out.trans (HD5.out.mono HB0.out.size)))
  clear Cf
  go_wp2_with fail
  refine K6.mono ?_
  rintro e w6 ⟨p6, c6, rfl, hl, hn, hb⟩
  obtain ⟨V6, hV6⟩ : ∃ V, w6.alloc (.cells #[.slice p6 sd.length c6] 24) = V := ⟨_, rfl⟩
  obtain ⟨hI, hbV⟩ := BoxI.new hl hV6
  have hbb : Below V5.heap.size V5 V6 := hb.trans (hbV.mono hb.size)
  have HD6 : Hid (Below W0.heap.size W0 V6) := HD5.out.trans (hbb.mono HD5.out.size)
  have HIG6 : Hid (BoxI w0.heap.size p0 c0 ps V6) := HIG5.out.below hbb
  have HIa6 : Hid (BoxI w1.heap.size p1 c1 sa V6) := HIa5.out.below hbb
  have HIb6 : Hid (BoxI w2.heap.size p2 c2 sa V6) := HIb5.out.below hbb
  have HIc6 : Hid (BoxI w3.heap.size p3 c3 sd V6) := HIc5.out.below hbb
  have HKc6 : Hid (BoxK (w3.heap.size + 1) ⟨kf, kt, kx⟩ V6) := HKc5.out.below hbb
  have HId6 : Hid (BoxI w4.heap.size p4 c4 sd V6) := HId5.out.below hbb
  have HKd6 : Hid (BoxK (w4.heap.size + 1) ⟨kf, kt, kx⟩ V6) := HKd5.out.below hbb
  have HIe6 : Hid (BoxI w5.heap.size p5 c5 sd V6) := HIe5.out.below hbb
  have HIf6 : Hid (BoxI w6.heap.size p6 c6 sd V6) := hI
  clear K6 hl hn hb hI hbV hbb gc xc HD5 HIG5 HIa5 HIb5 HIc5 HKc5 HId5 HKd5 HIe5
  have gc := HIG6.out.cell
  have xc := HX.out V6 HD6.out
  have K7 := Cg.out p0 c0 V6 HIG6.out.2
  clear Cg
  go_wp2_with fail
  refine K7.mono ?_
  rintro e w7 ⟨p7, c7, rfl, hl, hn, hb⟩
  obtain ⟨V7, hV7⟩ : ∃ V, w7.alloc (.cells #[.slice p7 sc.length c7] 24) = V := ⟨_, rfl⟩
  obtain ⟨hI, hbV⟩ := BoxI.new hl hV7
  have hbb : Below V6.heap.size V6 V7 := hb.trans (hbV.mono hb.size)
  have HD7 : Hid (Below W0.heap.size W0 V7) := HD6.out.trans (hbb.mono HD6.out.size)
  have HIG7 : Hid (BoxI w0.heap.size p0 c0 ps V7) := HIG6.out.below hbb
  have HIa7 : Hid (BoxI w1.heap.size p1 c1 sa V7) := HIa6.out.below hbb
  have HIb7 : Hid (BoxI w2.heap.size p2 c2 sa V7) := HIb6.out.below hbb
  have HIc7 : Hid (BoxI w3.heap.size p3 c3 sd V7) := HIc6.out.below hbb
  have HKc7 : Hid (BoxK (w3.heap.size + 1) ⟨kf, kt, kx⟩ V7) := HKc6.out.below hbb
  have HId7 : Hid (BoxI w4.heap.size p4 c4 sd V7) := HId6.out.below hbb
  have HKd7 : Hid (BoxK (w4.heap.size + 1) ⟨kf, kt, kx⟩ V7) := HKd6.out.below hbb
  have HIe7 : Hid (BoxI w5.heap.size p5 c5 sd V7) := HIe6.out.below hbb
  have HIf7 : Hid (BoxI w6.heap.size p6 c6 sd V7) := HIf6.out.below hbb
  have HIg7 : Hid (BoxI w7.heap.size p7 c7 sc V7) := hI
  clear K7 hl hn hb hI hbV hbb gc xc HD6 HIG6 HIa6 HIb6 HIc6 HKc6 HId6 HKd6 HIe6 HIf6
  have gc := HIG7.out.cell
  have xc := HX.out V7 HD7.out
  have K8 := Ch.out p c V7 (HL.out V7 (HB0.out.trans (HD7.out.mono HB0.out.size)))
  clear Ch
  go_wp2_with fail
  refine K8.mono ?_
  rintro e w8 ⟨p8, c8, rfl, hl, hn, hb⟩
  obtain ⟨V8, hV8⟩ : ∃ V, w8.alloc (.cells #[.slice p8 sc.length c8] 24) = V := ⟨_, rfl⟩
  obtain ⟨hI, hbV⟩ := BoxI.new hl hV8
  have hbb : Below V7.heap.size V7 V8 := hb.trans (hbV.mono hb.size)
  have HD8 : Hid (Below W0.heap.size W0 V8) := HD7.out.trans (hbb.mono HD7.out.size)
  have HIG8 : Hid (BoxI w0.heap.size p0 c0 ps V8) := HIG7.out.below hbb
  have HIa8 : Hid (BoxI w1.heap.size p1 c1 sa V8) := HIa7.out.below hbb
  have HIb8 : Hid (BoxI w2.heap.size p2 c2 sa V8) := HIb7.out.below hbb
  have HIc8 : Hid (BoxI w3.heap.size p3 c3 sd V8) := HIc7.out.below hbb
  have HKc8 : Hid (BoxK (w3.heap.size + 1) ⟨kf, kt, kx⟩ V8) := HKc7.out.below hbb
  have HId8 : Hid (BoxI w4.heap.size p4 c4 sd V8) := HId7.out.below hbb
  have HKd8 : Hid (BoxK (w4.heap.size + 1) ⟨kf, kt, kx⟩ V8) := HKd7.out.below hbb
  have HIe8 : Hid (BoxI w5.heap.size p5 c5 sd V8) := HIe7.out.below hbb
  have HIf8 : Hid (BoxI w6.heap.size p6 c6 sd V8) := HIf7.out.below hbb
  have HIg8 : Hid (BoxI w7.heap.size p7 c7 sc V8) := HIg7.out.below hbb
  have HIh8 : Hid (BoxI w8.heap.size p8 c8 sc V8) := hI
  clear K8 hl hn hb hI hbV hbb gc xc HD7 HIG7 HIa7 HIb7 HIc7 HKc7 HId7 HKd7 HIe7 HIf7 HIg7
  have HBE : Hid (Below w.heap.size w V8) := HB0.out.trans (HD8.out.mono HB0.out.size)
  have LIG : Hid (∀ l : LaterS V8.heap.size V8, BoxI w0.heap.size p0 c0 ps l.w) := fun l => HIG8.out.below l.h
  have cIG := fun l => (LIG.out l).cell
  have LIa : Hid (∀ l : LaterS V8.heap.size V8, BoxI w1.heap.size p1 c1 sa l.w) := fun l => HIa8.out.below l.h
  have cIa := fun l => (LIa.out l).cell
  have LIb : Hid (∀ l : LaterS V8.heap.size V8, BoxI w2.heap.size p2 c2 sa l.w) := fun l => HIb8.out.below l.h
  have cIb := fun l => (LIb.out l).cell
  have LIc : Hid (∀ l : LaterS V8.heap.size V8, BoxI w3.heap.size p3 c3 sd l.w) := fun l => HIc8.out.below l.h
  have cIc := fun l => (LIc.out l).cell
  have LKc : Hid (∀ l : LaterS V8.heap.size V8, BoxK (w3.heap.size + 1) ⟨kf, kt, kx⟩ l.w) := fun l => HKc8.out.below l.h
  have cKc0 := fun l => (LKc.out l).cells.1
  have cKc1 := fun l => (LKc.out l).cells.2.1
  have cKc2 := fun l => (LKc.out l).cells.2.2
  simp only at cKc0 cKc1 cKc2
  have LId : Hid (∀ l : LaterS V8.heap.size V8, BoxI w4.heap.size p4 c4 sd l.w) := fun l => HId8.out.below l.h
  have cId := fun l => (LId.out l).cell
  have LKd : Hid (∀ l : LaterS V8.heap.size V8, BoxK (w4.heap.size + 1) ⟨kf, kt, kx⟩ l.w) := fun l => HKd8.out.below l.h
  have cKd0 := fun l => (LKd.out l).cells.1
  have cKd1 := fun l => (LKd.out l).cells.2.1
  have cKd2 := fun l => (LKd.out l).cells.2.2
  simp only at cKd0 cKd1 cKd2
  have LIe : Hid (∀ l : LaterS V8.heap.size V8, BoxI w5.heap.size p5 c5 sd l.w) := fun l => HIe8.out.below l.h
  have cIe := fun l => (LIe.out l).cell
  have LIf : Hid (∀ l : LaterS V8.heap.size V8, BoxI w6.heap.size p6 c6 sd l.w) := fun l => HIf8.out.below l.h
  have cIf := fun l => (LIf.out l).cell
  have LIg : Hid (∀ l : LaterS V8.heap.size V8, BoxI w7.heap.size p7 c7 sc l.w) := fun l => HIg8.out.below l.h
  have cIg := fun l => (LIg.out l).cell
  have LIh : Hid (∀ l : LaterS V8.heap.size V8, BoxI w8.heap.size p8 c8 sc l.w) := fun l => HIh8.out.below l.h
  have cIh := fun l => (LIh.out l).cell
  have cX := fun l : LaterS V8.heap.size V8 => HX.out l.w (HD8.out.trans (l.h.mono HD8.out.size))
  have LN : Hid (∀ l : LaterS V8.heap.size V8, PsL l.w (.slice p ps.length c) ps) := fun l => (HL.out V8 HBE.out).below l.h
  have hpq := fun W => eql_core kf kf kt kt kx kx W
  simp only [eqP_self] at hpq
  have t1 : (ea == ea) = true := by simp
  have t2 : (ed == ed) = true := by simp
  have t3 : (ec == ec) = true := by simp
  have t4 : (ch == ch) = true := by simp
  have SA : Hid (∀ (args : Array Value) (l : LaterS V8.heap.size V8), (args = #[.agg #[.slice p1 sa.length c1], .agg #[.slice p2 sa.length c2]] ∨ args = #[.agg #[.slice p3 sd.length c3], .agg #[.slice p4 sd.length c4]] ∨ args = #[.agg #[.slice p5 sd.length c5], .agg #[.slice p6 sd.length c6]] ∨ args = #[.agg #[.slice p7 sc.length c7], .agg #[.slice p8 sc.length c8]] ∨ args = #[.agg #[.slice p0 ps.length c0], .agg #[.slice p ps.length c]]) → Calls Try.prog 17 args l.w fun e w' => e = .returned (.bool true) ∧ Below l.w.heap.size l.w w') := by
    intro args l ha
    rcases ha with rfl | rfl | rfl | rfl | rfl
    · exact CS.out sa _ _ _ _ l.w (LIa.out l).2 (LIb.out l).2
    · exact CS.out sd _ _ _ _ l.w (LIc.out l).2 (LId.out l).2
    · exact CS.out sd _ _ _ _ l.w (LIe.out l).2 (LIf.out l).2
    · exact CS.out sc _ _ _ _ l.w (LIg.out l).2 (LIh.out l).2
    · exact CS.out ps _ _ _ _ l.w (LIG.out l).2 (LN.out l)
  have S4 : Hid (∀ l : LaterS V8.heap.size V8, Calls Try.prog 18 #[.agg #[.slice p0 ps.length c0]] l.w fun e w' => e = .returned (.int .i64 ch) ∧ Below l.w.heap.size l.w w') := fun l => CK.out p0 c0 l.w (LIG.out l).2
  have S5 : Hid (∀ l : LaterS V8.heap.size V8, Calls Try.prog 19 #[.agg #[.slice p ps.length c]] l.w fun e w' => e = .returned (.int .i64 ch) ∧ Below l.w.heap.size l.w w') := fun l => CQ.out p c l.w (LN.out l)
  clear CS CK CQ HD8 HIG8 HIa8 HIb8 HIc8 HKc8 HId8 HKd8 HIe8 HIf8 HIg8 HIh8
  go_wp2_with fail
  have inhL := laterInh
  refine wp_region_laterS mixedOnS (by kernel_rfl) ?_
  repeat (go_big_quiet_step (first
    | (go_at_call 16; exact calls_laterS (CL.out _))
    | (go_at_call 17; refine calls_laterS (SA.out _ _ ?_); first | exact Or.inl rfl | exact Or.inr (Or.inl rfl) | exact Or.inr (Or.inr (Or.inl rfl)) | exact Or.inr (Or.inr (Or.inr (Or.inl rfl))) | exact Or.inr (Or.inr (Or.inr (Or.inr rfl))))
    | (go_at_call 18; exact calls_laterS (S4.out _))
    | (go_at_call 19; exact calls_laterS (S5.out _))))
  refine wpQuiet_nil ?_
  intro wz hw'
  obtain ⟨⟨wq, hwq⟩, hw''⟩ := hw'
  subst hw''
  have HF : Hid (Below w.heap.size w wz) := HBE.out.trans (hwq.mono HBE.out.size)
  clear hwq
  go_wp2_with fail
  go_ret
  exact ⟨rfl, HF.out⟩
end Go.Proofs.Ytnfgfbmkeiimlaa
