/- A bound query that is copied. -/
import Derived.Test.YtgdjhkcllpkiiaaGreatDoorVaVbVcVdVeVfVgVh
namespace Go.Proofs.YtgdjhkcllpkiiaaGreatDoor
open Go.Shelf Go.RowKit Go.Lib
set_option linter.unusedVariables false
set_option linter.unusedSimpArgs false
attribute [local go_sem ↓] Go.wp_at_zero Go.wp_at_succ
theorem inf168 : ∃ i0, Tryz.prog.info? 168 = some i0 ∧ i0.zero = some (.agg #[.int .u8 0, .string ⟨#[]⟩, .int .i64 0]) ∧ i0.size = 3 ∧ i0.bytes = 32 := by
  have h1 : (Tryz.prog.info? 168).bind (·.zero) = some (.agg #[.int .u8 0, .string ⟨#[]⟩, .int .i64 0]) := by kernel_rfl
  have h2 : (Tryz.prog.info? 168).map (·.size) = some 3 := by kernel_rfl
  have h3 : (Tryz.prog.info? 168).map (·.bytes) = some 32 := by kernel_rfl
  generalize Tryz.prog.info? 168 = i at *
  cases i with
  | none => cases h1
  | some i => exact ⟨i, rfl, h1, Option.some.inj h2, Option.some.inj h3⟩
theorem inf9 : ∃ i0, Tryz.prog.info? 9 = some i0 ∧ i0.zero = some (.string ⟨#[]⟩) ∧ i0.size = 1 ∧ i0.bytes = 16 := by
  have h1 : (Tryz.prog.info? 9).bind (·.zero) = some (.string ⟨#[]⟩) := by kernel_rfl
  have h2 : (Tryz.prog.info? 9).map (·.size) = some 1 := by kernel_rfl
  have h3 : (Tryz.prog.info? 9).map (·.bytes) = some 16 := by kernel_rfl
  generalize Tryz.prog.info? 9 = i at *
  cases i with
  | none => cases h1
  | some i => exact ⟨i, rfl, h1, Option.some.inj h2, Option.some.inj h3⟩
theorem inf62 : ∃ i0, Tryz.prog.info? 62 = some i0 ∧ i0.zero = some (.int .u8 0) ∧ i0.size = 1 ∧ i0.bytes = 1 := by
  have h1 : (Tryz.prog.info? 62).bind (·.zero) = some (.int .u8 0) := by kernel_rfl
  have h2 : (Tryz.prog.info? 62).map (·.size) = some 1 := by kernel_rfl
  have h3 : (Tryz.prog.info? 62).map (·.bytes) = some 1 := by kernel_rfl
  generalize Tryz.prog.info? 62 = i at *
  cases i with
  | none => cases h1
  | some i => exact ⟨i, rfl, h1, Option.some.inj h2, Option.some.inj h3⟩
theorem inf108 : ∃ i0, Tryz.prog.info? 108 = some i0 ∧ i0.zero = some (.agg #[.int .u8 0, .slice none 0 0]) ∧ i0.size = 2 ∧ i0.bytes = 32 := by
  have h1 : (Tryz.prog.info? 108).bind (·.zero) = some (.agg #[.int .u8 0, .slice none 0 0]) := by kernel_rfl
  have h2 : (Tryz.prog.info? 108).map (·.size) = some 2 := by kernel_rfl
  have h3 : (Tryz.prog.info? 108).map (·.bytes) = some 32 := by kernel_rfl
  generalize Tryz.prog.info? 108 = i at *
  cases i with
  | none => cases h1
  | some i => exact ⟨i, rfl, h1, Option.some.inj h2, Option.some.inj h3⟩
theorem size34 : (Tryz.prog.info? 34).map (·.size) = some 11 := by kernel_rfl
theorem size108 : (Tryz.prog.info? 108).map (·.size) = some 2 := by kernel_rfl
set_option maxRecDepth 100000 in
set_option maxHeartbeats 8000000 in
theorem copyBound_any (cs : List Value) (x : Bnd) (K : Nat → Prop) (w : World) (h : rBnd K w cs x) (hK : ∀ b, K b → b < w.heap.size) :
    Calls Tryz.prog 16 #[.agg cs.toArray] w fun e w' => ∃ cs', e = .returned (.agg cs'.toArray) ∧ rBnd (From w.heap.size w') w' cs' x ∧ Below w.heap.size w w' := by
  obtain ⟨v1, v2, v3, v4, v5, rfl, q1, q2, q3, q4, q5, h1, h2, h3, h4, h5⟩ := h
  have HQ : Hid (small x.t ∧ small x.j ∧ I64 x.w ∧ I64 x.l ∧ I64 x.r) := ⟨q1, q2, q3, q4, q5⟩
  obtain ⟨k0, hk0, hk1, hk2, hk3⟩ := inf168
  obtain ⟨i0, hi0, hi1, hi2, hi3⟩ := inf3
  obtain ⟨m0, hm0, hm1, hm2, hm3⟩ := inf9
  obtain ⟨n0, hn0, hn1, hn2, hn3⟩ := inf62
  obtain ⟨j0, hj0, hj1, hj2, hj3⟩ := inf108
  obtain ⟨W0, hW0, t0, hs0⟩ := Two.start w 34 #[.string x.t, .string x.j, .int .i64 x.w, .int .i64 x.l, .int .i64 x.r, v1, v2, v3, .bool x.gr, v4, v5] #[.string ⟨#[]⟩, .string ⟨#[]⟩, .int .i64 0, .int .i64 0, .int .i64 0, .slice none 0 0, .slice none 0 0, .slice none 0 0, .bool false, .slice none 0 0, .slice none 0 0] rfl
  obtain ⟨Y1, X1, V1, p1, c1, A1⟩ := t0.app fStp mStp Tryz.underlying28 hk0 hk1 hk2 hk3 rfl (by omega) (by omega) (k := 5) rfl h1 hK
  obtain ⟨Y2, X2, V2, p2, c2, A2⟩ := A1.two.app fInt mInt Tryz.underlying29 hi0 hi1 hi2 hi3 rfl (by omega) (by omega) (k := 6) rfl h2 hK
  obtain ⟨Y3, X3, V3, p3, c3, A3⟩ := A2.two.app fTxt mTxt Tryz.underlying31 hm0 hm1 hm2 hm3 rfl (by omega) (by omega) (k := 9) rfl h4 hK
  obtain ⟨Y4, X4, V4, p4, c4, A4⟩ := A3.two.app fKnd mKnd Tryz.underlying32 hn0 hn1 hn2 hn3 rfl (by omega) (by omega) (k := 10) rfl h5 hK
  have HT1 : Hid (Two 34 [.string x.t, .string x.j, .int .i64 x.w, .int .i64 x.l, .int .i64 x.r, .slice p1 x.wh.length c1, .slice p2 x.g.length c2, v3, .bool x.gr, .slice p3 x.nm.length c3, .slice p4 x.kd.length c4] w V4) := A4.two
  have HL1 : Hid (ListIs rStp 3 32 (From (w.heap.size + 2) V4) V4 (.slice p1 x.wh.length c1) x.wh ∧ ListIs rInt 1 8 (From (w.heap.size + 2) V4) V4 (.slice p2 x.g.length c2) x.g ∧ ListIs rTxt 1 16 (From (w.heap.size + 2) V4) V4 (.slice p3 x.nm.length c3) x.nm ∧ ListIs rKnd 1 1 (From (w.heap.size + 2) V4) V4 (.slice p4 x.kd.length c4) x.kd) := ⟨((A1.list.onw mStp A2.kept).onw mStp A3.kept).onw mStp A4.kept, (A2.list.onw mInt A3.kept).onw mInt A4.kept, A3.list.onw mTxt A4.kept, A4.list⟩
  have e7 := HT1.out.cell (k := 7) (v := v3) rfl
  have hO : ListIs rItm 2 32 K V4 v3 x.i := ListIs.later mItm h3 hK HT1.out.2.2
  have HKK : Hid (∀ b, K b → b < V4.heap.size) := fun b hb => Nat.lt_of_lt_of_le (hK b hb) HT1.out.2.2.size
  obtain ⟨xs, hxs⟩ : ∃ xs, x.i = xs := ⟨_, rfl⟩
  rw [hxs] at hO
  obtain ⟨p, c, rfl, hby, hp⟩ := hO
  have HP : Hid (0 < xs.length → ∃ b o, p = some ⟨b, o, none⟩ ∧ K b ∧ ∀ (j : Nat) (h : j < xs.length), ∃ cs, cs.length = 2 ∧ (∀ (i : Nat) (u : Value), cs[i]? = some u → V4.cell? ⟨b, o + j * 2 + i, none⟩ = some u) ∧ rItm K V4 cs xs[j]) := hp
  have HBY : Hid (xs.length * 32 ≤ 140737488355328) := hby
  have HJ : Hid (OwnR rItm 2 108 V4.heap.size V4 (.slice none 0 0) (xs.take 0)) := OwnR.nil
  have hx63 : xs.length ≤ 140737488355328 := by omega
  obtain ⟨a01, a02, a03, a04, r1, a06, a07, _, _, _⟩ := A1
  obtain ⟨b01, b02, b03, b04, r2, b06, b07, _, _, _⟩ := A2
  obtain ⟨d01, d02, d03, d04, r3, d06, d07, _, _, _⟩ := A3
  obtain ⟨f01, f02, f03, f04, r4, f06, f07, _, _, _⟩ := A4
  obtain ⟨z1, y1, rfl, nn1, nn2⟩ := id h1
  obtain ⟨z2, y2, rfl, nn3, nn4⟩ := id h2
  obtain ⟨z3, y3, rfl, nn5, nn6⟩ := id h4
  obtain ⟨z4, y4, rfl, nn7, nn8⟩ := id h5
  have HXS : Hid (x.i = xs) := hxs
  clear nn1 nn2 nn3 nn4 nn5 nn6 nn7 nn8 t0 hs0 h1 h2 h3 h4 h5 hK q1 q2 q3 q4 q5 hp hby hxs
  go_enter Tryz.func16, Tryz.ntmps16
  go_wp2_with (first | (at_builtin; refine Lib.wpList_append_run _ rfl _ _ _ _ rfl (.slice (some ⟨W0.heap.size, 0, none⟩) 0 0) (.slice z1 x.wh.length y1) rfl rfl _ _ r1 ?_) | (at_builtin; refine Lib.wpList_append_run _ rfl _ _ _ _ rfl (.slice (some ⟨V1.heap.size, 0, none⟩) 0 0) (.slice z2 x.g.length y2) rfl rfl _ _ r2 ?_) | (at_builtin; refine Lib.wpList_append_run _ rfl _ _ _ _ rfl (.slice (some ⟨V2.heap.size, 0, none⟩) 0 0) (.slice z3 x.nm.length y3) rfl rfl _ _ r3 ?_) | (at_builtin; refine Lib.wpList_append_run _ rfl _ _ _ _ rfl (.slice (some ⟨V3.heap.size, 0, none⟩) 0 0) (.slice z4 x.kd.length y4) rfl rfl _ _ r4 ?_))
  clear a01 a02 a03 a04 r1 a06 a07 b01 b02 b03 b04 r2 b06 b07 d01 d02 d03 d04 r3 d06 d07 f01 f02 f03 f04 r4 f06 f07 hW0
  go_loopg [3, 29] xs.length (fun gf s3 s8 wx => ∃ (u : Value) (i : Nat), u = s3 ∧ s8 = .int .i64 i ∧ i ≤ xs.length ∧ xs.length ≤ i + gf ∧ Hid (OwnR rItm 2 108 V4.heap.size wx u (xs.take i)) ∧ Hid (Below V4.heap.size V4 wx))
  case atStart => exact ⟨_, 0, rfl, rfl, by omega, by omega, HJ, Below.refl _ _⟩
  case round =>
    clear HJ
    obtain ⟨u, i, rfl, rfl, hi1', hgf, HJ, HB⟩ := hrel
    by_cases hi : i < xs.length
    · obtain ⟨g', rfl⟩ : ∃ g', gk = g' + 1 := ⟨gk - 1, by omega⟩
      obtain ⟨b, o, rfl, hKb, hc⟩ := HP.out (by omega)
      obtain ⟨cs, hcl, hcell, hrel1⟩ := hc i hi
      have htk : xs.take (i + 1) = xs.take i ++ [xs[i]] := List.take_succ_eq_append_getElem hi
      obtain ⟨y, hy⟩ : ∃ y, xs[i] = y := ⟨_, rfl⟩
      rw [hy] at hrel1 htk
      obtain ⟨vr, rfl, hyg, hl⟩ := hrel1
      have hbw := HB.out
      have hra : wr.rangeAt b (o + i * 2) [.int .u8 (y.g : Int), vr] := fun j u hu => by
        rw [hbw.cell (p := ⟨b, _, none⟩) (HKK.out _ hKb)]
        exact hcell j u hu
      have hlw : ListIs rStp 3 32 K wr vr y.e := ListIs.later mStp hl HKK.out hbw
      obtain ⟨WA, hWA, hth, WS, hWS, hrs, hss, hbs, hrl⟩ := box_new wr 108 #[.int .u8 0, .slice none 0 0] [.int .u8 (y.g : Int), vr] rfl
      obtain ⟨Y, hY⟩ : ∃ Y, WS.drew.alloc (.cells #[] 168) = Y := ⟨_, rfl⟩
      have hYb : (WS.alloc (.cells #[] 168)).drew = Y := hY
      have hbY : Below WS.heap.size WS Y := by rw [← hYb]; exact ((Below.refl _ _).alloc (Nat.le_refl _) _).drew
      have hgY : Y.heap[WS.heap.size]? = some (.cells #[] 168 (0, 0)) := by rw [← hYb]; exact heap_alloc_new WS _
      have hbWY : Below wr.heap.size wr Y := hbs.trans (hbY.mono hbs.size)
      obtain ⟨X, p9, c9, hC⟩ := cpy_list fStp Tryz.underlying28 hk0 hk1 hk2 hk3 rfl (by omega) (by omega) hgY (ListIs.later mStp hlw (fun b hb => Nat.lt_of_lt_of_le (HKK.out b hb) hbw.size) hbWY)
      have hbSX : Below WS.heap.size WS X := hC.below _ _ hbY (Nat.le_refl _)
      have hbX : Below wr.heap.size wr X := hbs.trans (hbSX.mono hbs.size)
      have hJX := HJ.out.keep mItm hbX
      have hlen : (xs.take i).length = i := by simp; omega
      have hmx : i + 1 ≤ maxLen := by have := HBY.out; unfold maxLen; omega
      have hb24 : (i + 1) * 32 ≤ 140737488355328 := by have := HBY.out; omega
      obtain ⟨v', X2, e2, hJ2, hb2, hs2⟩ := OwnR.push mItm Tryz.underlying30 hj0 hj1 hj2 hj3 rfl (by omega) hJX (Nat.le_trans hbw.size hbX.size) (cs := [.int .u8 (y.g : Int), .slice p9 y.e.length c9]) (x := y) (K2 := From WS.heap.size X) rfl (fun c hc => by simp at hc; rcases hc with rfl | rfl <;> rfl)
        (fun b hb => ⟨by have := hb.1; have := hbw.size; have := hbs.size; omega, hb.2, fun e => by obtain ⟨_, _, _, ho, _⟩ := HJ.out; have := (ho.lt _ e).2; have := hb.1; have := hbs.size; omega⟩) ⟨_, rfl, hyg, hC.list⟩ (by rw [hlen]; exact hb24) (by rw [hlen]; exact hmx)
      obtain ⟨Z, hZ⟩ : ∃ Z, X.alloc (.cells #[.int .u8 (y.g : Int), .slice p9 y.e.length c9] 108) = Z := ⟨_, rfl⟩
      have hbZ : Below X.heap.size X Z := by rw [← hZ]; exact (Below.refl _ _).alloc (Nat.le_refl _) _
      have HE2 : Hid ((Builtin.append_ #[30, 30] 30 #[u, .slice (some ⟨X.heap.size, 0, none⟩) 1 1]).run Tryz.prog Z = .ok v' X2) := by rw [← hZ]; exact e2
      have hB9 : Below (wr.heap.size + 1) WS X := hbSX.mono (by omega)
      have hcS := hrs 0 _ rfl
      have hcS1 := hrs 1 _ rfl
      obtain ⟨pr, cr, rfl, nn1, nn2⟩ := id hl
      have KC : Hid (∀ W, Below WS.heap.size WS W → W.cell? ⟨wr.heap.size, 0, none⟩ = some (.int .u8 (y.g : Int)) ∧ W.cell? ⟨wr.heap.size, 1, none⟩ = some (.slice pr y.e.length cr)) := fun W hb => ⟨by have := hrl W hb 0 _ rfl; simpa using this, by have := hrl W hb 1 _ rfl; simpa using this⟩
      have K0 := hid (KC.out WS (Below.refl _ _))
      have KY := hid (KC.out Y hbY)
      have KX := hid (KC.out X hbSX)
      have KZ := hid (KC.out Z (hbSX.trans (hbZ.mono hbSX.size)))
      have hx2 : X2.heap[wr.heap.size]? = X.heap[wr.heap.size]? := hs2.2 _ (by have := hC.size_; have := hbY.size; omega) (fun e => by obtain ⟨_, _, _, ho, _⟩ := HJ.out; have := (ho.lt _ e).2; omega)
      have KV : Hid (X2.cell? ⟨wr.heap.size, 0, none⟩ = some (.int .u8 (y.g : Int)) ∧ X2.cell? ⟨wr.heap.size, 1, none⟩ = some (.slice pr y.e.length cr)) := ⟨by rw [World.cell?_of_block (w := X) hx2]; exact KX.out.1, by rw [World.cell?_of_block (w := X) hx2]; exact KX.out.2⟩
      have hRUN1 := hid hC.run
      have HJ2 : Hid (OwnR rItm 2 108 V4.heap.size X2 v' (xs.take (i + 1))) := by rw [htk]; exact hJ2
      have HB2 : Hid (Below V4.heap.size V4 X2) := hb2 _ _ (hbw.trans (hbX.mono hbw.size)) (Nat.le_refl _)
      have HRA : Hid (wr.rangeAt b (o + i * 2) [.int .u8 (y.g : Int), .slice pr y.e.length cr]) := hra
      have HTH : Hid (WA.there wr.heap.size 0 2) := hth
      have HWS : Hid (WA.setCells wr.heap.size 0 (#[.int .u8 (y.g : Int), .slice pr y.e.length cr] : Array Value).toList = WS) := hWS
      have HON : Hid ((#[.int .u8 (y.g : Int), .slice pr y.e.length cr] : Array Value).all (·.oneCell') = true) := by show _ = _; simp [Value.oneCell']
      have z0 : (0 : Int) ≤ (i : Int) := by omega
      have z1' : (i : Int) < (xs.length : Int) := by omega
      clear nn1 nn2 hc hcell hy HB hKb hcl hbw hlw hbY hgY hbX hJX hlen hmx hb24 hJ2 hs2 hl htk hra hth hWS hrs hss hbs hrl hbWY hbSX e2 hbZ hcS hcS1 hB9 hx2
      go_wp2_with (first | (refine wpList_load_mid rfl 108 _ rfl b (o + i * 2) rfl _ _ HRA.out Tryz.underlying108 rfl size108 ?_) | (refine wpList_store_mid rfl 108 _ _ rfl wr.heap.size 0 #[.int .u8 (y.g : Int), .slice pr y.e.length cr] rfl rfl HTH.out size108 HON.out ?_; rw [HWS.out]))
      have b0 := K0.out
      go_region_held3 (fun w' => w'.cell? ⟨wr.heap.size, 0, none⟩ = some (.int .u8 (y.g : Int)) ∧ w'.cell? ⟨wr.heap.size, 1, none⟩ = some (.slice pr y.e.length cr))
        (first | exact KY.out | exact KX.out | exact K0.out | exact KZ.out | exact KV.out | go_keep)
        ((first
          | (refine step_append 28 _ rfl _ _ rfl (.slice (some ⟨WS.heap.size, 0, none⟩) 0 0) (.slice pr y.e.length cr) (.slice p9 y.e.length c9) X rfl rfl (by with_reducible exact hRUN1.out) ?_)
          | (refine step_append 30 _ rfl _ _ rfl u (.slice (some ⟨X.heap.size, 0, none⟩) 1 1) v' X2 rfl rfl (by with_reducible exact HE2.out) ?_)))
      all_goals (go_wp2_with fail; go_roundg g')
      case measure => omega
      case rel => exact ⟨_, i + 1, rfl, by go_num, by omega, by omega, HJ2, HB2⟩
    · have z1 : ¬ (i : Int) < (xs.length : Int) := by omega
      have hJ := HJ.out
      rw [List.take_of_length_le (by omega)] at hJ
      obtain ⟨pf, cf, huf, hlf⟩ := hJ.list mItm HBY.out
      subst huf
      have t2 := HT1.out.call HB.out
      obtain ⟨l1, l2, l3, l4⟩ := HL1.out
      have m2 := hlf.less mItm HT1.out.lt
      obtain ⟨V5, hV5, f2, t3, s3, k3⟩ := t2.put (k := 7) (by simp) (.slice pf xs.length cf)
      have c7 := t2.cell (k := 7) (v := .slice p xs.length c) rfl
      obtain ⟨hra, hth, W5, hW5, hld, hb5, s5, k5⟩ := t3.ret Tryz.underlying34 rfl size34
      have l1' := (((l1.grow mStp HB.out).kept mStp k3).kept mStp k5).less mStp (C := w.heap.size) (by omega)
      have l2' := (((l2.grow mInt HB.out).kept mInt k3).kept mInt k5).less mInt (C := w.heap.size) (by omega)
      have l3' := (((l3.grow mTxt HB.out).kept mTxt k3).kept mTxt k5).less mTxt (C := w.heap.size) (by omega)
      have l4' := (((l4.grow mKnd HB.out).kept mKnd k3).kept mKnd k5).less mKnd (C := w.heap.size) (by omega)
      have m5 := ((m2.kept mItm k3).kept mItm k5).less mItm (C := w.heap.size) (by omega)
      have HRA : Hid (V5.rangeAt w.heap.size 0 [.string x.t, .string x.j, .int .i64 x.w, .int .i64 x.l, .int .i64 x.r, .slice p1 x.wh.length c1, .slice p2 x.g.length c2, .slice pf xs.length cf, .bool x.gr, .slice p3 x.nm.length c3, .slice p4 x.kd.length c4]) := hra
      have HTH : Hid (V5.there (w.heap.size + 1) 0 11) := hth
      have HW5 : Hid (V5.setCells (w.heap.size + 1) 0 (#[.string x.t, .string x.j, .int .i64 x.w, .int .i64 x.l, .int .i64 x.r, .slice p1 x.wh.length c1, .slice p2 x.g.length c2, .slice pf xs.length cf, .bool x.gr, .slice p3 x.nm.length c3, .slice p4 x.kd.length c4] : Array Value).toList = W5) := hW5
      have HON : Hid ((#[.string x.t, .string x.j, .int .i64 x.w, .int .i64 x.l, .int .i64 x.r, .slice p1 x.wh.length c1, .slice p2 x.g.length c2, .slice pf xs.length cf, .bool x.gr, .slice p3 x.nm.length c3, .slice p4 x.kd.length c4] : Array Value).all (·.oneCell') = true) := by show _ = _; simp [Value.oneCell']
      have HLD : Hid ((loadVar 34 ⟨w.heap.size + 1, 0, none⟩).run Tryz.prog W5 = .ok (.agg #[.string x.t, .string x.j, .int .i64 x.w, .int .i64 x.l, .int .i64 x.r, .slice p1 x.wh.length c1, .slice p2 x.g.length c2, .slice pf xs.length cf, .bool x.gr, .slice p3 x.nm.length c3, .slice p4 x.kd.length c4]) W5) := hld
      have HF : Hid (rBnd (From w.heap.size W5) W5 [.string x.t, .string x.j, .int .i64 x.w, .int .i64 x.l, .int .i64 x.r, .slice p1 x.wh.length c1, .slice p2 x.g.length c2, .slice pf xs.length cf, .bool x.gr, .slice p3 x.nm.length c3, .slice p4 x.kd.length c4] x ∧ Below w.heap.size w W5) := ⟨⟨_, _, _, _, _, rfl, HQ.out.1, HQ.out.2.1, HQ.out.2.2.1, HQ.out.2.2.2.1, HQ.out.2.2.2.2, l1', l2', by rw [HXS.out]; exact m5, l3', l4'⟩, hb5⟩
      clear HJ hJ hlf HB t2 l1 l2 l3 l4 m2 t3 s3 k3 hra hth hW5 hld hb5 s5 k5 l1' l2' l3' l4' m5
      go_wp2_with (first | (refine wpList_load_mid rfl 34 _ rfl w.heap.size 0 rfl _ _ HRA.out Tryz.underlying34 rfl size34 ?_) | (refine wpList_store_mid rfl 34 _ _ rfl (w.heap.size + 1) 0 #[.string x.t, .string x.j, .int .i64 x.w, .int .i64 x.l, .int .i64 x.r, .slice p1 x.wh.length c1, .slice p2 x.g.length c2, .slice pf xs.length cf, .bool x.gr, .slice p3 x.nm.length c3, .slice p4 x.kd.length c4] rfl rfl HTH.out size34 HON.out ?_; rw [HW5.out]))
      refine bodyPost_ret (v := .agg #[.string x.t, .string x.j, .int .i64 x.w, .int .i64 x.l, .int .i64 x.r, .slice p1 x.wh.length c1, .slice p2 x.g.length c2, .slice pf xs.length cf, .bool x.gr, .slice p3 x.nm.length c3, .slice p4 x.kd.length c4]) (by simp only [results, Tryz.results16]; simp [asAddr, Act.put, HLD.out]) rfl ?_
      exact ⟨[.string x.t, .string x.j, .int .i64 x.w, .int .i64 x.l, .int .i64 x.r, .slice p1 x.wh.length c1, .slice p2 x.g.length c2, .slice pf xs.length cf, .bool x.gr, .slice p3 x.nm.length c3, .slice p4 x.kd.length c4], rfl, HF.out.1, HF.out.2⟩
end Go.Proofs.YtgdjhkcllpkiiaaGreatDoor
/- A message that is copied, field by field. -/
namespace Go.Proofs.YtgdjhkcllpkiiaaGreatDoor
open Go.Shelf Go.RowKit Go.Lib
set_option linter.unusedVariables false
set_option linter.unusedSimpArgs false
/-- A run of cells is stored. -/
theorem Two.mid {t : TypeId} {w : World} : ∀ (cs : List Value) {cl : List Value} {W : World} (h : Two t cl w W) (lo : Nat) (hl : lo + cs.length ≤ cl.length),
    ∃ W' cl', W.setCells w.heap.size lo cs = W' ∧ Two t cl' w W' ∧ cl'.length = cl.length ∧ (∀ (j : Nat) (u : Value), cs[j]? = some u → cl'[lo + j]? = some u) ∧ (∀ k, k < lo ∨ lo + cs.length ≤ k → cl'[k]? = cl[k]?) ∧ W'.heap.size = W.heap.size ∧ Kept (fun b => w.heap.size + 2 ≤ b) W W'
  | [], cl, W, h, lo, hl => ⟨W, cl, rfl, h, rfl, fun j u hu => by simp at hu, fun k _ => rfl, rfl, Kept.refl _ _⟩
  | v :: vs, cl, W, h, lo, hl => by
    simp only [List.length_cons] at hl
    obtain ⟨W1, hW1, _, t1, s1, k1⟩ := h.put (k := lo) (by omega) v
    obtain ⟨W2, cl2, hW2, t2, l2, c2, o2, s2, k2⟩ := Two.mid vs t1 (lo + 1) (by simp; omega)
    refine ⟨W2, cl2, ?_, t2, by rw [l2]; simp, fun j u hu => ?_, fun k hk => ?_, by omega, k1.trans k2⟩
    · rw [← hW2, ← hW1]; rfl
    · cases j with
      | zero =>
        simp only [List.getElem?_cons_zero, Option.some.injEq] at hu
        rw [Nat.add_zero, o2 lo (.inl (by omega)), List.getElem?_set_self (by omega), hu]
      | succ j =>
        simp only [List.getElem?_cons_succ] at hu
        have := c2 j u hu
        rwa [show lo + 1 + j = lo + (j + 1) by omega] at this
    · simp only [List.length_cons] at hk
      rw [o2 k (by omega), List.getElem?_set_ne (by omega)]
theorem Two.there {t : TypeId} {cl : List Value} {w W : World} (h : Two t cl w W) (lo n : Nat) (hl : lo + n ≤ cl.length) : W.there w.heap.size lo n := fun j hj => by
  refine ⟨?_, frozen_zero h.1 _⟩
  rw [cellR h.1 (by simpa using List.getElem?_eq_getElem (by omega : lo + j < cl.length))]
  rfl
theorem Two.range {t : TypeId} {cl : List Value} {w W : World} (h : Two t cl w W) {lo : Nat} {cs : List Value} (hc : ∀ (j : Nat) (u : Value), cs[j]? = some u → cl[lo + j]? = some u) : W.rangeAt w.heap.size lo cs := fun j u hu => h.cell (hc j u hu)
/-- How far a message is copied. -/
structure Stage (n hi : Nat) (w W : World) (cl cl0 : List Value) (x : Mg) : Prop where
  two : Two 49 cl w W
  len : cl.length = 47
  same : ∀ k, k < 7 ∨ hi ≤ k ∨ k = 37 ∨ k = 38 → cl[k]? = cl0[k]?
  bd : 1 ≤ n → GI rBnd 7 11 (From (w.heap.size + 2) W) W cl.toArray x.bd
  ct : 2 ≤ n → GI rTbls 18 1 (From (w.heap.size + 2) W) W cl.toArray x.ct
  fg : 3 ≤ n → GI rFrg 19 17 (From (w.heap.size + 2) W) W cl.toArray x.fg
  nd : 4 ≤ n → GI rInts 36 1 (From (w.heap.size + 2) W) W cl.toArray x.nd
  rw_ : 5 ≤ n → GI rRws 39 1 (From (w.heap.size + 2) W) W cl.toArray x.rw
  fh : 6 ≤ n → GI rFh 40 5 (From (w.heap.size + 2) W) W cl.toArray (⟨x.fl.t, x.fl.v, x.fl.s, x.fl.c⟩ : Fh)
  fw : 6 ≤ n → GI rRws 45 1 (From (w.heap.size + 2) W) W cl.toArray x.fl.r
  cm : 7 ≤ n → GI rClms 46 1 (From (w.heap.size + 2) W) W cl.toArray x.cm
theorem GI.step {α : Type} {rel : Rel α} (hm : Mono rel) {lo sz B : Nat} {W W' : World} {cl cl' : List Value} {x : α} (h : GI rel lo sz (From B W) W cl.toArray x) (hc : ∀ k, lo ≤ k → k < lo + sz → cl'[k]? = cl[k]?) (hk : Kept (From B W) W W') : GI rel lo sz (From B W') W' cl'.toArray x :=
  h.keep hm (fun k h1 h2 => by simpa using hc k h1 h2) (fun b hb => ⟨hb.1, Nat.lt_of_lt_of_le hb.2 hk.size⟩) hk
theorem Stage.start {w W : World} {cl : List Value} {x : Mg} (h : Two 49 cl w W) (hl : cl.length = 47) : Stage 0 7 w W cl cl x :=
  ⟨h, hl, fun _ _ => rfl, fun h => by omega, fun h => by omega, fun h => by omega, fun h => by omega, fun h => by omega, fun h => by omega, fun h => by omega, fun h => by omega⟩
theorem Stage.call {n hi : Nat} {w W W' : World} {cl cl0 : List Value} {x : Mg} (h : Stage n hi w W cl cl0 x) (hb : Below W.heap.size W W') : Stage n hi w W' cl cl0 x :=
  have hk : Kept (From (w.heap.size + 2) W) W W' := kept_of (fun b h => h.2) hb
  ⟨h.two.call hb, h.len, h.same, fun e => (h.bd e).step mBnd (fun _ _ _ => rfl) hk, fun e => (h.ct e).step mTbls (fun _ _ _ => rfl) hk, fun e => (h.fg e).step mFrg (fun _ _ _ => rfl) hk, fun e => (h.nd e).step mInts (fun _ _ _ => rfl) hk, fun e => (h.rw_ e).step mRws (fun _ _ _ => rfl) hk, fun e => (h.fh e).step mFh (fun _ _ _ => rfl) hk, fun e => (h.fw e).step mRws (fun _ _ _ => rfl) hk, fun e => (h.cm e).step mClms (fun _ _ _ => rfl) hk⟩
theorem Stage.put1 {w W W' : World} {cl cl' cl0 : List Value} {x : Mg} (h : Stage 0 7 w W cl cl0 x) (h2 : Two 49 cl' w W') (hl : cl'.length = cl.length) (ho : ∀ k, k < 7 ∨ 18 ≤ k → cl'[k]? = cl[k]?) (hk' : Kept (From (w.heap.size + 2) W) W W') (hg0 : GI rBnd 7 11 (From (w.heap.size + 2) W') W' cl'.toArray x.bd) : Stage 1 18 w W' cl' cl0 x :=
  ⟨h2, by rw [hl]; exact h.len, fun k hkk => (ho k (by omega)).trans (h.same k (by omega)), fun _ => hg0, fun e => by omega, fun e => by omega, fun e => by omega, fun e => by omega, fun e => by omega, fun e => by omega, fun e => by omega⟩
theorem Stage.put2 {w W W' : World} {cl cl' cl0 : List Value} {x : Mg} (h : Stage 1 18 w W cl cl0 x) (h2 : Two 49 cl' w W') (hl : cl'.length = cl.length) (ho : ∀ k, k < 18 ∨ 19 ≤ k → cl'[k]? = cl[k]?) (hk' : Kept (From (w.heap.size + 2) W) W W') (hg0 : GI rTbls 18 1 (From (w.heap.size + 2) W') W' cl'.toArray x.ct) : Stage 2 19 w W' cl' cl0 x :=
  ⟨h2, by rw [hl]; exact h.len, fun k hkk => (ho k (by omega)).trans (h.same k (by omega)), fun e => (h.bd (by omega)).step mBnd (fun k h1 h2 => ho k (by omega)) hk', fun _ => hg0, fun e => by omega, fun e => by omega, fun e => by omega, fun e => by omega, fun e => by omega, fun e => by omega⟩
theorem Stage.put3 {w W W' : World} {cl cl' cl0 : List Value} {x : Mg} (h : Stage 2 19 w W cl cl0 x) (h2 : Two 49 cl' w W') (hl : cl'.length = cl.length) (ho : ∀ k, k < 19 ∨ 36 ≤ k → cl'[k]? = cl[k]?) (hk' : Kept (From (w.heap.size + 2) W) W W') (hg0 : GI rFrg 19 17 (From (w.heap.size + 2) W') W' cl'.toArray x.fg) : Stage 3 36 w W' cl' cl0 x :=
  ⟨h2, by rw [hl]; exact h.len, fun k hkk => (ho k (by omega)).trans (h.same k (by omega)), fun e => (h.bd (by omega)).step mBnd (fun k h1 h2 => ho k (by omega)) hk', fun e => (h.ct (by omega)).step mTbls (fun k h1 h2 => ho k (by omega)) hk', fun _ => hg0, fun e => by omega, fun e => by omega, fun e => by omega, fun e => by omega, fun e => by omega⟩
theorem Stage.put4 {w W W' : World} {cl cl' cl0 : List Value} {x : Mg} (h : Stage 3 36 w W cl cl0 x) (h2 : Two 49 cl' w W') (hl : cl'.length = cl.length) (ho : ∀ k, k < 36 ∨ 37 ≤ k → cl'[k]? = cl[k]?) (hk' : Kept (From (w.heap.size + 2) W) W W') (hg0 : GI rInts 36 1 (From (w.heap.size + 2) W') W' cl'.toArray x.nd) : Stage 4 37 w W' cl' cl0 x :=
  ⟨h2, by rw [hl]; exact h.len, fun k hkk => (ho k (by omega)).trans (h.same k (by omega)), fun e => (h.bd (by omega)).step mBnd (fun k h1 h2 => ho k (by omega)) hk', fun e => (h.ct (by omega)).step mTbls (fun k h1 h2 => ho k (by omega)) hk', fun e => (h.fg (by omega)).step mFrg (fun k h1 h2 => ho k (by omega)) hk', fun _ => hg0, fun e => by omega, fun e => by omega, fun e => by omega, fun e => by omega⟩
theorem Stage.put5 {w W W' : World} {cl cl' cl0 : List Value} {x : Mg} (h : Stage 4 37 w W cl cl0 x) (h2 : Two 49 cl' w W') (hl : cl'.length = cl.length) (ho : ∀ k, k < 39 ∨ 40 ≤ k → cl'[k]? = cl[k]?) (hk' : Kept (From (w.heap.size + 2) W) W W') (hg0 : GI rRws 39 1 (From (w.heap.size + 2) W') W' cl'.toArray x.rw) : Stage 5 40 w W' cl' cl0 x :=
  ⟨h2, by rw [hl]; exact h.len, fun k hkk => (ho k (by omega)).trans (h.same k (by omega)), fun e => (h.bd (by omega)).step mBnd (fun k h1 h2 => ho k (by omega)) hk', fun e => (h.ct (by omega)).step mTbls (fun k h1 h2 => ho k (by omega)) hk', fun e => (h.fg (by omega)).step mFrg (fun k h1 h2 => ho k (by omega)) hk', fun e => (h.nd (by omega)).step mInts (fun k h1 h2 => ho k (by omega)) hk', fun _ => hg0, fun e => by omega, fun e => by omega, fun e => by omega⟩
theorem Stage.put6 {w W W' : World} {cl cl' cl0 : List Value} {x : Mg} (h : Stage 5 40 w W cl cl0 x) (h2 : Two 49 cl' w W') (hl : cl'.length = cl.length) (ho : ∀ k, k < 40 ∨ 46 ≤ k → cl'[k]? = cl[k]?) (hk' : Kept (From (w.heap.size + 2) W) W W') (hg0 : GI rFh 40 5 (From (w.heap.size + 2) W') W' cl'.toArray (⟨x.fl.t, x.fl.v, x.fl.s, x.fl.c⟩ : Fh)) (hg1 : GI rRws 45 1 (From (w.heap.size + 2) W') W' cl'.toArray x.fl.r) : Stage 6 46 w W' cl' cl0 x :=
  ⟨h2, by rw [hl]; exact h.len, fun k hkk => (ho k (by omega)).trans (h.same k (by omega)), fun e => (h.bd (by omega)).step mBnd (fun k h1 h2 => ho k (by omega)) hk', fun e => (h.ct (by omega)).step mTbls (fun k h1 h2 => ho k (by omega)) hk', fun e => (h.fg (by omega)).step mFrg (fun k h1 h2 => ho k (by omega)) hk', fun e => (h.nd (by omega)).step mInts (fun k h1 h2 => ho k (by omega)) hk', fun e => (h.rw_ (by omega)).step mRws (fun k h1 h2 => ho k (by omega)) hk', fun _ => hg0, fun _ => hg1, fun e => by omega⟩
theorem Stage.put7 {w W W' : World} {cl cl' cl0 : List Value} {x : Mg} (h : Stage 6 46 w W cl cl0 x) (h2 : Two 49 cl' w W') (hl : cl'.length = cl.length) (ho : ∀ k, k < 46 ∨ 47 ≤ k → cl'[k]? = cl[k]?) (hk' : Kept (From (w.heap.size + 2) W) W W') (hg0 : GI rClms 46 1 (From (w.heap.size + 2) W') W' cl'.toArray x.cm) : Stage 7 47 w W' cl' cl0 x :=
  ⟨h2, by rw [hl]; exact h.len, fun k hkk => (ho k (by omega)).trans (h.same k (by omega)), fun e => (h.bd (by omega)).step mBnd (fun k h1 h2 => ho k (by omega)) hk', fun e => (h.ct (by omega)).step mTbls (fun k h1 h2 => ho k (by omega)) hk', fun e => (h.fg (by omega)).step mFrg (fun k h1 h2 => ho k (by omega)) hk', fun e => (h.nd (by omega)).step mInts (fun k h1 h2 => ho k (by omega)) hk', fun e => (h.rw_ (by omega)).step mRws (fun k h1 h2 => ho k (by omega)) hk', fun e => (h.fh (by omega)).step mFh (fun k h1 h2 => ho k (by omega)) hk', fun e => (h.fw (by omega)).step mRws (fun k h1 h2 => ho k (by omega)) hk', fun _ => hg0⟩
/-- A message that is copied is that message, in new memory. -/
theorem Stage.done {w W W' : World} {cl cl0 : List Value} {x : Mg} {K : Nat → Prop} {w0 : World} (h : Stage 7 47 w W cl cl0 x) (h0 : MsgIs K w0 cl0.toArray x) (hk : Kept (fun b => w.heap.size + 2 ≤ b) W W') : MsgIs (From w.heap.size W') W' cl.toArray x := by
  have e : ∀ k, k < 7 ∨ k = 37 ∨ k = 38 → cl.toArray[k]? = cl0.toArray[k]? := fun k hk => by simpa using h.same k (by omega)
  have D : ∀ b, From (w.heap.size + 2) W b → From w.heap.size W' b := fun b hb => ⟨by have := hb.1; omega, Nat.lt_of_lt_of_le hb.2 hk.size⟩
  have hk' : Kept (From (w.heap.size + 2) W) W W' := hk.less fun b h => h.1
  have fl : ∀ {α : Type} {rel : Rel α} {lo sz : Nat} {v : α}, (∀ K K' W W' cs x, rel K W cs x → rel K' W' cs x) → (∀ k, lo ≤ k → k < lo + sz → k < 7 ∨ k = 37 ∨ k = 38) → GI rel lo sz K w0 cl0.toArray v → GI rel lo sz (From w.heap.size W') W' cl.toArray v := fun hf hr ⟨cs, g1, g2, g3⟩ => ⟨cs, g1, fun j u hj => by rw [e _ (hr _ (by omega) (by have := (List.getElem?_eq_some_iff.1 hj).1; omega))]; exact g2 j u hj, hf _ _ _ _ _ _ g3⟩
  exact ⟨by simpa using h.len, by rw [e 0 (by omega)]; exact h0.kc, h0.kl, fl (fun _ _ _ _ _ _ h => h) (by omega) h0.bt, fl (fun _ _ _ _ _ _ h => h) (by omega) h0.qr, fl (fun _ _ _ _ _ _ h => h) (by omega) h0.at_, fl (fun _ _ _ _ _ _ h => h) (by omega) h0.fr, fl (fun _ _ _ _ _ _ h => h) (by omega) h0.tq, (h.bd (by omega)).keep mBnd (fun _ _ _ => rfl) D hk', (h.ct (by omega)).keep mTbls (fun _ _ _ => rfl) D hk', (h.fg (by omega)).keep mFrg (fun _ _ _ => rfl) D hk', (h.nd (by omega)).keep mInts (fun _ _ _ => rfl) D hk', fl (fun _ _ _ _ _ _ h => h) (by omega) h0.sq, fl (fun _ _ _ _ _ _ h => h) (by omega) h0.ls, (h.rw_ (by omega)).keep mRws (fun _ _ _ => rfl) D hk', (h.fh (by omega)).keep mFh (fun _ _ _ => rfl) D hk', (h.fw (by omega)).keep mRws (fun _ _ _ => rfl) D hk', (h.cm (by omega)).keep mClms (fun _ _ _ => rfl) D hk'⟩
end Go.Proofs.YtgdjhkcllpkiiaaGreatDoor
/- A message that is copied: the walk. -/
namespace Go.Proofs.YtgdjhkcllpkiiaaGreatDoor
open Go.Shelf Go.RowKit Go.Lib
set_option linter.unusedVariables false
set_option linter.unusedSimpArgs false
attribute [local go_sem ↓] Go.wp_at_zero Go.wp_at_succ
theorem bnd_shape {K : Nat → Prop} {W : World} {cs : List Value} {x : Bnd} (h : rBnd K W cs x) : cs.length = 11 ∧ cs.toArray.all (·.oneCell') = true := by
  obtain ⟨v1, v2, v3, v4, v5, rfl, _, _, _, _, _, ⟨_, _, rfl, _⟩, ⟨_, _, rfl, _⟩, ⟨_, _, rfl, _⟩, ⟨_, _, rfl, _⟩, ⟨_, _, rfl, _⟩⟩ := h
  exact ⟨rfl, by simp [Value.oneCell']⟩
theorem frg_shape {K : Nat → Prop} {W : World} {cs : List Value} {x : Frg} (h : rFrg K W cs x) : cs.length = 17 ∧ cs.toArray.all (·.oneCell') = true := by
  obtain ⟨d1, d2, v3, rfl, _, _, ⟨v1, rfl, _, _, _, _, ⟨_, _, rfl, _⟩⟩, ⟨v2, rfl, _, _, _, _, ⟨_, _, rfl, _⟩⟩, _, ⟨_, _, rfl, _⟩⟩ := h
  exact ⟨rfl, by simp [Value.oneCell']⟩
theorem fil_shape {K : Nat → Prop} {W : World} {cs : List Value} {r : Value} {x : Fh} {rs : List (List Val)} (h : rFh K W cs x) (h' : ListIs rRow 1 24 K W r rs) : (cs ++ [r]).length = 6 ∧ cs.length = 5 ∧ (cs ++ [r]).toArray.all (·.oneCell') = true := by
  obtain ⟨v1, rfl, _, _, _, ⟨_, _, rfl, _⟩⟩ := h
  obtain ⟨_, _, rfl, _⟩ := h'
  exact ⟨rfl, rfl, by simp [Value.oneCell']⟩
theorem rel_new {α : Type} {rel : Rel α} (hm : Mono rel) {B C : Nat} {W W' : World} {cs : List Value} {x : α} (h : rel (From B W) W cs x) (hB : C ≤ B) (hk : Kept (fun b => C ≤ b) W W') : rel (From C W') W' cs x :=
  hm _ _ _ _ _ _ (fun b hb => ⟨by have := hb.1; omega, Nat.lt_of_lt_of_le hb.2 hk.size⟩) (hk.less fun b hb => by have := hb.1; omega) h
theorem inf71 : ∃ i0, Tryz.prog.info? 71 = some i0 ∧ i0.zero = some (.agg #[.string ⟨#[]⟩, .slice none 0 0, .slice none 0 0]) ∧ i0.size = 3 ∧ i0.bytes = 64 := by
  have h1 : (Tryz.prog.info? 71).bind (·.zero) = some (.agg #[.string ⟨#[]⟩, .slice none 0 0, .slice none 0 0]) := by kernel_rfl
  have h2 : (Tryz.prog.info? 71).map (·.size) = some 3 := by kernel_rfl
  have h3 : (Tryz.prog.info? 71).map (·.bytes) = some 64 := by kernel_rfl
  generalize Tryz.prog.info? 71 = i at *
  cases i with
  | none => cases h1
  | some i => exact ⟨i, rfl, h1, Option.some.inj h2, Option.some.inj h3⟩
theorem size71 : (Tryz.prog.info? 71).map (·.size) = some 3 := by kernel_rfl
set_option maxRecDepth 100000 in
set_option maxHeartbeats 16000000 in
theorem copy_any (cl : List Value) (x : Mg) (K : Nat → Prop) (w : World) (h : MsgIs K w cl.toArray x) (hK : ∀ b, K b → b < w.heap.size) :
    Calls Tryz.prog 7 #[.agg cl.toArray] w fun e w' => ∃ cl' : List Value, e = .returned (.agg cl'.toArray) ∧ cl'.length = 47 ∧ MsgIs (From w.heap.size w') w' cl'.toArray x ∧ Below w.heap.size w w' := by
  have hcl : cl.length = 47 := by simpa using h.size
  obtain ⟨W0, hW0, t0, hs0⟩ := Two.start w 49 cl.toArray zc.toArray (by rw [show cl.toArray.size = 47 by simpa using hcl]; rfl)
  have S0 : Hid (Stage 0 7 w W0 cl cl x) := Stage.start (by simpa using t0) hcl
  have HM : Hid (MsgIs K w cl.toArray x) := h
  have KW : Hid (∀ W, Below w.heap.size w W → ∀ b, K b → b < W.heap.size) := fun W hb b h => Nat.lt_of_lt_of_le (hK b h) hb.size
  have HK : Hid (∀ b, K b → b < w.heap.size) := hK
  obtain ⟨bs, lb, cb, hbd⟩ := h.bd
  obtain ⟨_, _, ct, vt, rfl, hct⟩ := h.ct
  obtain ⟨fs, lf, cf, hfg⟩ := h.fg
  obtain ⟨_, _, cn, vn, rfl, hnd⟩ := h.nd
  obtain ⟨_, _, cr, vr, rfl, hrw⟩ := h.rw_
  obtain ⟨hs, lh, ch, hfh⟩ := h.fh
  obtain ⟨_, _, cw, vw, rfl, hfw⟩ := h.fw
  obtain ⟨_, _, cc, vc, rfl, hcm⟩ := h.cm
  have CB : Hid (∀ (j : Nat) (u : Value), bs[j]? = some u → cl[7 + j]? = some u) := fun j u hj => by simpa using cb j u hj
  have CT : Hid (cl[18]? = some vt) := by have := ct 0 vt rfl; show _ = _; simpa using this
  have CF : Hid (∀ (j : Nat) (u : Value), fs[j]? = some u → cl[19 + j]? = some u) := fun j u hj => by simpa using cf j u hj
  have CN : Hid (cl[36]? = some vn) := by have := cn 0 vn rfl; show _ = _; simpa using this
  have CR : Hid (cl[39]? = some vr) := by have := cr 0 vr rfl; show _ = _; simpa using this
  have CH : Hid (∀ (j : Nat) (u : Value), (hs ++ [vw])[j]? = some u → cl[40 + j]? = some u) := fun j u hj => by
    by_cases hj5 : j < 5
    · rw [List.getElem?_append_left (by omega)] at hj
      simpa using ch j u hj
    · have hl := (List.getElem?_eq_some_iff.1 hj).1
      simp only [List.length_append, List.length_cons, List.length_nil] at hl
      obtain rfl : j = 5 := by omega
      rw [List.getElem?_append_right (by omega), lh] at hj
      simpa using cw 0 u hj
  have CC : Hid (cl[46]? = some vc) := by have := cc 0 vc rfl; show _ = _; simpa using this
  have LB : Hid (bs.length = 11) := lb
  have LF : Hid (fs.length = 17) := lf
  have LH : Hid ((hs ++ [vw]).length = 6) := (fil_shape hfh hfw).1
  have XB : Hid (∀ W, Below w.heap.size w W → Calls Tryz.prog 16 #[.agg bs.toArray] W fun e w' => ∃ cs', e = .returned (.agg cs'.toArray) ∧ rBnd (From W.heap.size w') w' cs' x.bd ∧ Below W.heap.size W w') := fun W hb => copyBound_any bs x.bd K W (mBnd _ _ _ _ _ _ (fun _ h => h) (kept_of hK hb) hbd) (KW.out W hb)
  have XF : Hid (∀ W, Below w.heap.size w W → Calls Tryz.prog 18 #[.agg fs.toArray] W fun e w' => ∃ cs', e = .returned (.agg cs'.toArray) ∧ rFrg (From W.heap.size w') w' cs' x.fg ∧ Below W.heap.size W w') := fun W hb => copyFrag_any fs x.fg K W (mFrg _ _ _ _ _ _ (fun _ h => h) (kept_of hK hb) hfg) (KW.out W hb)
  have XR : Hid (∀ W, Below w.heap.size w W → Calls Tryz.prog 19 #[vr] W fun e w' => CpP rRow 1 24 x.rw W e w') := fun W hb => copyRows_any vr x.rw K W (ListIs.later mRow hrw hK hb) (KW.out W hb)
  have XH : Hid (∀ W, Below w.heap.size w W → Calls Tryz.prog 20 #[.agg (hs ++ [vw]).toArray] W fun e w' => ∃ cs' r', e = .returned (.agg (cs' ++ [r']).toArray) ∧ rFh (From W.heap.size w') w' cs' (⟨x.fl.t, x.fl.v, x.fl.s, x.fl.c⟩ : Fh) ∧ ListIs rRow 1 24 (From W.heap.size w') w' r' x.fl.r ∧ Below W.heap.size W w') := fun W hb => copyFile_any hs vw _ x.fl.r K W (mFh _ _ _ _ _ _ (fun _ h => h) (kept_of hK hb) hfh) (ListIs.later mRow hfw hK hb) (KW.out W hb)
  have XC : Hid (∀ W, Below w.heap.size w W → Calls Tryz.prog 21 #[vc] W fun e w' => CpP rClm 5 80 x.cm W e w') := fun W hb => copyClaims_any vc x.cm K W (ListIs.later mClm hcm hK hb) (KW.out W hb)
  have HNd : Hid (ListIs rInt 1 8 K w vn x.nd) := hnd
  have HCt : Hid (ListIs rTbl 3 64 K w vt x.ct) := hct
  obtain ⟨j0, hj0, hj1, hj2, hj3⟩ := inf71
  obtain ⟨i0, hi0, hi1, hi2, hi3⟩ := inf3
  obtain ⟨pn, qn, rfl, nn1, nn2⟩ := id hnd
  obtain ⟨pr, qr, rfl, nn3, nn4⟩ := id hrw
  obtain ⟨pc, qc, rfl, nn5, nn6⟩ := id hcm
  have I34 : Hid ((Tryz.prog.info? 34).map (·.size) = some bs.length) := by show _ = _; rw [lb]; exact size34
  have I42 : Hid ((Tryz.prog.info? 42).map (·.size) = some fs.length) := by show _ = _; rw [lf]; exact size42
  have I46 : Hid ((Tryz.prog.info? 46).map (·.size) = some (hs ++ [vw]).length) := by show _ = _; rw [LH.out]; exact size46
  have HR1 : Hid (W0.rangeAt w.heap.size 7 bs) := S0.out.two.range CB.out
  have XB0 := hid (XB.out W0 S0.out.two.2.2)
  clear nn1 nn2 nn3 nn4 nn5 nn6 h hcl t0 hs0 hK lb cb hbd ct hct lf cf hfg cn hnd cr hrw lh ch hfh cw hfw cc hcm XB
  unfold zc at hW0
  go_enter Tryz.func7, Tryz.ntmps7
  go_wp2_with (refine wpList_load_mid rfl 34 _ rfl w.heap.size 7 rfl bs _ HR1.out Tryz.underlying34 rfl I34.out ?_)
  refine XB0.out.mono ?_
  rintro e w1 ⟨bs1, rfl, hr1, hb1⟩
  obtain ⟨ln1, on1⟩ := bnd_shape hr1
  have s1 := S0.out.call hb1
  obtain ⟨V1, cl1, hV1, t1, l1, c1, o1, z1, k1⟩ := Two.mid bs1 s1.two 7 (by rw [ln1, s1.len]; omega)
  have S1 : Hid (Stage 1 18 w V1 cl1 cl x) := s1.put1 t1 l1 (by rw [ln1] at o1; exact o1) (k1.less fun b h => h.1) ⟨bs1, ln1, fun j u hj => by simpa using c1 j u hj, rel_new mBnd hr1 S0.out.two.lt k1⟩
  have HV1 : Hid (w1.setCells w.heap.size 7 bs1.toArray.toList = V1) := by show _ = _; simpa using hV1
  have HT1 : Hid (w1.there w.heap.size 7 bs1.toArray.size) := by show w1.there _ _ _; rw [show bs1.toArray.size = 11 by simpa using ln1]; exact s1.two.there 7 11 (by rw [s1.len]; omega)
  have HI1 : Hid ((Tryz.prog.info? 34).map (·.size) = some bs1.toArray.size) := by show _ = _; rw [show bs1.toArray.size = 11 by simpa using ln1]; exact size34
  have HO1 : Hid (bs1.toArray.all (·.oneCell') = true) := on1
  have c18 : V1.cell? ⟨w.heap.size, 18, none⟩ = some vt := S1.out.two.cell ((S1.out.same 18 (by omega)).trans CT.out)
  have hO := ListIs.later mTbl HCt.out HK.out S1.out.two.2.2
  have HKK := hid (KW.out V1 S1.out.two.2.2)
  obtain ⟨xs, hxs⟩ : ∃ xs, x.ct = xs := ⟨_, rfl⟩
  rw [hxs] at hO
  obtain ⟨p, c, rfl, hby, hp⟩ := hO
  have HXS : Hid (x.ct = xs) := hxs
  have HP : Hid (0 < xs.length → ∃ b o, p = some ⟨b, o, none⟩ ∧ K b ∧ ∀ (j : Nat) (h : j < xs.length), ∃ cs, cs.length = 3 ∧ (∀ (i : Nat) (u : Value), cs[i]? = some u → V1.cell? ⟨b, o + j * 3 + i, none⟩ = some u) ∧ rTbl K V1 cs xs[j]) := hp
  have HBY : Hid (xs.length * 64 ≤ 140737488355328) := hby
  have HJ : Hid (OwnR rTbl 3 71 V1.heap.size V1 (.slice none 0 0) (xs.take 0)) := OwnR.nil
  have hx63 : xs.length ≤ 140737488355328 := by omega
  clear hr1 hb1 ln1 on1 s1 hV1 t1 l1 c1 o1 z1 k1 hxs hp hby HCt S0 HR1 XB0
  go_wp2_with (refine wpList_store_mid rfl 34 _ _ rfl w.heap.size 7 bs1.toArray rfl rfl HT1.out HI1.out HO1.out ?_; rw [HV1.out])
  clear HV1 HT1 HI1 HO1 hW0
  go_loopg [3, 13] xs.length (fun gf s3 s8 wx => ∃ (u : Value) (i : Nat), u = s3 ∧ s8 = .int .i64 i ∧ i ≤ xs.length ∧ xs.length ≤ i + gf ∧ Hid (OwnR rTbl 3 71 V1.heap.size wx u (xs.take i)) ∧ Hid (Below V1.heap.size V1 wx))
  case atStart => exact ⟨_, 0, rfl, rfl, by omega, by omega, HJ, Below.refl _ _⟩
  case round =>
    clear HJ
    obtain ⟨u, i, rfl, rfl, hi1', hgf, HJ, HB⟩ := hrel
    by_cases hi : i < xs.length
    · obtain ⟨g', rfl⟩ : ∃ g', gk = g' + 1 := ⟨gk - 1, by omega⟩
      obtain ⟨b, o, rfl, hKb, hc⟩ := HP.out (by omega)
      obtain ⟨cs, hcl, hcell, hrel1⟩ := hc i hi
      have htk : xs.take (i + 1) = xs.take i ++ [xs[i]] := List.take_succ_eq_append_getElem hi
      obtain ⟨y, hy⟩ : ∃ y, xs[i] = y := ⟨_, rfl⟩
      rw [hy] at hrel1 htk
      have hbw := HB.out
      have hrw : rTbl K wr cs y := mTbl _ _ _ _ _ _ (fun _ h => h) (kept_of HKK.out hbw) hrel1
      obtain ⟨v1, v2, rfl, q1, n1, n2⟩ := id hrw
      have hra : wr.rangeAt b (o + i * 3) [.string y.n, v1, v2] := fun j u hu => by
        rw [hbw.cell (p := ⟨b, _, none⟩) (HKK.out _ hKb)]
        exact hcell j u hu
      obtain ⟨z1, y1, rfl, _, _⟩ := n1
      obtain ⟨z2, y2, rfl, _, _⟩ := n2
      obtain ⟨WA, hWA, hth, WS, hWS, hrs, hss, hbs, hrl⟩ := box_new wr 71 #[.string ⟨#[]⟩, .slice none 0 0, .slice none 0 0] [.string y.n, .slice z1 y.c.length y1, .slice z2 y.r.length y2] rfl
      have hKW : ∀ b, K b → b < WS.heap.size := fun b hb => by have := HKK.out b hb; have := hbw.size; omega
      have HCC : Hid (Calls Tryz.prog 17 #[.agg #[.string y.n, .slice z1 y.c.length y1, .slice z2 y.r.length y2]] WS fun e w' => ∃ cs', e = .returned (.agg cs'.toArray) ∧ rTbl (From WS.heap.size w') w' cs' y ∧ Below WS.heap.size WS w') := copyTable_any _ y K WS (mTbl _ _ _ _ _ _ (fun _ h => h) (kept_of (fun b hb => Nat.lt_of_lt_of_le (HKK.out b hb) hbw.size) hbs) hrw) hKW
      have HRA : Hid (wr.rangeAt b (o + i * 3) [.string y.n, .slice z1 y.c.length y1, .slice z2 y.r.length y2]) := hra
      have HTH : Hid (WA.there wr.heap.size 0 3) := hth
      have HWS : Hid (WA.setCells wr.heap.size 0 (#[.string y.n, .slice z1 y.c.length y1, .slice z2 y.r.length y2] : Array Value).toList = WS) := hWS
      have HRS : Hid (WS.rangeAt wr.heap.size 0 [.string y.n, .slice z1 y.c.length y1, .slice z2 y.r.length y2]) := hrs
      have HON : Hid ((#[.string y.n, .slice z1 y.c.length y1, .slice z2 y.r.length y2] : Array Value).all (·.oneCell') = true) := by show _ = _; simp [Value.oneCell']
      have HBS : Hid (Below wr.heap.size wr WS) := hbs
      have HTK : Hid (xs.take (i + 1) = xs.take i ++ [y]) := htk
      have z0 : (0 : Int) ≤ (i : Int) := by omega
      have z1' : (i : Int) < (xs.length : Int) := by omega
      clear hra hth hWS hrs hrl hbs htk hc hcell hy hKb hcl hbw hrel1 hrw q1 hKW hss
      go_wp2_with (first | (refine wpList_load_mid rfl 71 _ rfl b (o + i * 3) rfl _ _ HRA.out Tryz.underlying71 rfl size71 ?_) | (refine wpList_store_mid rfl 71 _ _ rfl wr.heap.size 0 #[.string y.n, .slice z1 y.c.length y1, .slice z2 y.r.length y2] rfl rfl HTH.out size71 HON.out ?_; rw [HWS.out]) | (refine wpList_load_mid rfl 71 _ rfl wr.heap.size 0 rfl _ _ HRS.out Tryz.underlying71 rfl size71 ?_))
      refine HCC.out.mono ?_
      rintro e w3 ⟨cs3, rfl, hr3, hb3⟩
      obtain ⟨u1, u2, rfl, q1, n1, n2⟩ := id hr3
      obtain ⟨p1, c1, rfl, _, _⟩ := n1
      obtain ⟨p2, c2, rfl, _, _⟩ := n2
      have hB3 : Below wr.heap.size wr w3 := HBS.out.trans (hb3.mono HBS.out.size)
      have hJX := HJ.out.keep mTbl hB3
      have hlen : (xs.take i).length = i := by simp; omega
      have hmx : i + 1 ≤ maxLen := by have := HBY.out; unfold maxLen; omega
      have hb80 : (i + 1) * 64 ≤ 140737488355328 := by have := HBY.out; omega
      obtain ⟨v', X2, e2, hJ2, hb2, hs2⟩ := OwnR.push mTbl Tryz.underlying35 hj0 hj1 hj2 hj3 rfl (by omega) hJX (Nat.le_trans HB.out.size hB3.size) (cs := [.string y.n, .slice p1 y.c.length c1, .slice p2 y.r.length c2]) (x := y) (K2 := From WS.heap.size w3) rfl (fun c hc => by simp at hc; rcases hc with rfl | rfl | rfl <;> rfl)
        (fun b hb => ⟨by have := hb.1; have := HB.out.size; have := HBS.out.size; omega, hb.2, fun e => by obtain ⟨_, _, _, ho, _⟩ := HJ.out; have := (ho.lt _ e).2; have := hb.1; have := HBS.out.size; omega⟩) hr3 (by rw [hlen]; exact hb80) (by rw [hlen]; exact hmx)
      have HJ2 : Hid (OwnR rTbl 3 71 V1.heap.size X2 v' (xs.take (i + 1))) := by rw [HTK.out]; exact hJ2
      have HB2 : Hid (Below V1.heap.size V1 X2) := hb2 _ _ (HB.out.trans (hB3.mono HB.out.size)) (Nat.le_refl _)
      clear hJ2 hb2 hs2 hJX hlen hmx hb80 hB3 hr3 hb3 q1 HJ HB
      go_wp2_with (at_builtin; refine Lib.wpList_append_run _ rfl _ _ _ _ rfl u (.slice (some ⟨w3.heap.size, 0, none⟩) 1 1) rfl rfl _ _ e2 ?_)
      go_roundg g'
      case measure => omega
      case rel => exact ⟨_, i + 1, rfl, by go_num, by omega, by omega, HJ2, HB2⟩
    · have z1 : ¬ (i : Int) < (xs.length : Int) := by omega
      have hJ := HJ.out
      rw [List.take_of_length_le (by omega)] at hJ
      obtain ⟨pf, cff, huf, hlf⟩ := hJ.list mTbl HBY.out
      subst huf
      have s2 := S1.out.call HB.out
      obtain ⟨V2, cl2, hV2, t2, l2, c2, o2, zz2, k2⟩ := Two.mid [.slice pf xs.length cff] s2.two 18 (by rw [s2.len]; simp)
      have S2 : Hid (Stage 2 19 w V2 cl2 cl x) := s2.put2 t2 l2 o2 (k2.less fun b h => h.1) ⟨_, rfl, fun j u hj => by simpa using c2 j u hj, ⟨_, rfl, by rw [HXS.out]; exact (hlf.less mTbl S1.out.two.lt).kept mTbl k2⟩⟩
      have hV2' : wr.setCell ⟨w.heap.size, 18, none⟩ (.slice pf xs.length cff) = V2 := hV2
      have f18 : wr.frozen? ⟨w.heap.size, 18, none⟩ = false := frozen_zero s2.two.1 _
      have d18 : wr.cell? ⟨w.heap.size, 18, none⟩ = some (.slice p xs.length c) := s2.two.cell ((s2.same 18 (by omega)).trans CT.out)
      have HR3 : Hid (V2.rangeAt w.heap.size 19 fs) := S2.out.two.range fun j u hj => (S2.out.same _ (by have := (List.getElem?_eq_some_iff.1 hj).1; have := LF.out; omega)).trans (CF.out j u hj)
      have XF0 := hid (XF.out V2 S2.out.two.2.2)
      clear HJ hJ hlf HB s2 hV2 t2 l2 c2 o2 zz2 k2 S1 XF c18
      go_wp2_with (refine wpList_load_mid rfl 42 _ rfl w.heap.size 19 rfl fs _ HR3.out Tryz.underlying42 rfl I42.out ?_)
      refine XF0.out.mono ?_
      rintro e w3 ⟨fs1, rfl, hr3, hb3⟩
      obtain ⟨ln3, on3⟩ := frg_shape hr3
      have s3 := S2.out.call hb3
      obtain ⟨V3, cl3, hV3, t3, l3, c3, o3, zz3, k3⟩ := Two.mid fs1 s3.two 19 (by rw [ln3, s3.len]; omega)
      have S3 : Hid (Stage 3 36 w V3 cl3 cl x) := s3.put3 t3 l3 (by rw [ln3] at o3; exact o3) (k3.less fun b h => h.1) ⟨fs1, ln3, fun j u hj => by simpa using c3 j u hj, rel_new mFrg hr3 S2.out.two.lt k3⟩
      have HV3 : Hid (w3.setCells w.heap.size 19 fs1.toArray.toList = V3) := by show _ = _; simpa using hV3
      have HT3 : Hid (w3.there w.heap.size 19 fs1.toArray.size) := by show w3.there _ _ _; rw [show fs1.toArray.size = 17 by simpa using ln3]; exact s3.two.there 19 17 (by rw [s3.len]; omega)
      have HI3 : Hid ((Tryz.prog.info? 42).map (·.size) = some fs1.toArray.size) := by show _ = _; rw [show fs1.toArray.size = 17 by simpa using ln3]; exact size42
      have HO3 : Hid (fs1.toArray.all (·.oneCell') = true) := on3
      obtain ⟨Y4, X4, V4, p4, c4, A4⟩ := S3.out.two.app fInt mInt Tryz.underlying29 hi0 hi1 hi2 hi3 rfl (by omega) (by omega) (k := 36) ((S3.out.same 36 (by omega)).trans CN.out) HNd.out HK.out
      have S4 : Hid (Stage 4 37 w V4 (cl3.set 36 (.slice p4 x.nd.length c4)) cl x) := S3.out.put4 A4.two (by simp) (fun k hk => List.getElem?_set_ne (by omega)) A4.kept ⟨[.slice p4 x.nd.length c4], rfl, fun j u hj => by
        have hj0 : j < 1 := (List.getElem?_eq_some_iff.1 hj).1
        obtain rfl : j = 0 := by omega
        have := S3.out.len
        simp only [List.getElem?_cons_zero, Option.some.injEq] at hj
        rw [← hj]
        simp [List.getElem?_set, this], ⟨_, rfl, A4.list⟩⟩
      obtain ⟨cl4, hcl4⟩ : ∃ cl4, cl3.set 36 (.slice p4 x.nd.length c4) = cl4 := ⟨_, rfl⟩
      rw [hcl4] at S4
      obtain ⟨a1, a2, a3, a4, r4, a6, a7, _, _, _⟩ := A4
      have d39 : V4.cell? ⟨w.heap.size, 39, none⟩ = some (.slice pr x.rw.length qr) := S4.out.two.cell ((S4.out.same 39 (by omega)).trans CR.out)
      have XR0 := hid (XR.out V4 S4.out.two.2.2)
      clear hr3 hb3 ln3 on3 s3 hV3 t3 l3 c3 o3 zz3 k3 S2 HR3 XF0 hV2' f18 d18 S3 XR hcl4
      go_wp2_with (first | (refine wpList_store_mid rfl 42 _ _ rfl w.heap.size 19 fs1.toArray rfl rfl HT3.out HI3.out HO3.out ?_; rw [HV3.out]) | (at_builtin; refine Lib.wpList_append_run _ rfl _ _ _ _ rfl (.slice (some ⟨V3.heap.size, 0, none⟩) 0 0) (.slice pn x.nd.length qn) rfl rfl _ _ r4 ?_))
      clear HV3 HT3 HI3 HO3 a1 a2 a3 a4 r4 a6 a7
      refine XR0.out.mono ?_
      rintro e w5 ⟨p5, c5, rfl, hl5, hb5⟩
      have s5 := S4.out.call hb5
      obtain ⟨V5, cl5, hV5, t5, l5, cc5, o5, zz5, k5⟩ := Two.mid [.slice p5 x.rw.length c5] s5.two 39 (by rw [s5.len]; simp)
      have S5 : Hid (Stage 5 40 w V5 cl5 cl x) := s5.put5 t5 l5 o5 (k5.less fun b h => h.1) ⟨_, rfl, fun j u hj => by simpa using cc5 j u hj, ⟨_, rfl, (hl5.less mRow S4.out.two.lt).kept mRow k5⟩⟩
      have hV5' : w5.setCell ⟨w.heap.size, 39, none⟩ (.slice p5 x.rw.length c5) = V5 := hV5
      have f39 : w5.frozen? ⟨w.heap.size, 39, none⟩ = false := frozen_zero s5.two.1 _
      have d39' : w5.cell? ⟨w.heap.size, 39, none⟩ = some (.slice pr x.rw.length qr) := s5.two.cell ((s5.same 39 (by omega)).trans CR.out)
      have HR6 : Hid (V5.rangeAt w.heap.size 40 (hs ++ [vw])) := S5.out.two.range fun j u hj => (S5.out.same _ (by have := (List.getElem?_eq_some_iff.1 hj).1; have := LH.out; omega)).trans (CH.out j u hj)
      have XH0 := hid (XH.out V5 S5.out.two.2.2)
      clear hl5 hb5 s5 hV5 t5 l5 cc5 o5 zz5 k5 S4 XR0 d39 XH
      go_wp2_with (refine wpList_load_mid rfl 46 _ rfl w.heap.size 40 rfl (hs ++ [vw]) _ HR6.out Tryz.underlying46 rfl I46.out ?_)
      refine XH0.out.mono ?_
      rintro e w6 ⟨hs6, r6, rfl, hr6, hl6, hb6⟩
      obtain ⟨ln6, ln6', on6⟩ := fil_shape hr6 hl6
      have s6 := S5.out.call hb6
      obtain ⟨V6, cl6, hV6, t6, l6, c6, o6, zz6, k6⟩ := Two.mid (hs6 ++ [r6]) s6.two 40 (by rw [ln6, s6.len]; omega)
      have S6 : Hid (Stage 6 46 w V6 cl6 cl x) := s6.put6 t6 l6 (by rw [ln6] at o6; exact o6) (k6.less fun b h => h.1) ⟨hs6, ln6', fun j u hj => by
          have hjl := (List.getElem?_eq_some_iff.1 hj).1
          simpa using c6 j u (by rw [List.getElem?_append_left hjl]; exact hj), rel_new mFh hr6 S5.out.two.lt k6⟩ ⟨[r6], rfl, fun j u hj => by
          have hj0 : j < 1 := (List.getElem?_eq_some_iff.1 hj).1
          obtain rfl : j = 0 := by omega
          have := c6 5 u (by rw [List.getElem?_append_right (by omega), ln6']; exact hj)
          simpa using this, ⟨_, rfl, (hl6.less mRow S5.out.two.lt).kept mRow k6⟩⟩
      have HV6 : Hid (w6.setCells w.heap.size 40 (hs6 ++ [r6]).toArray.toList = V6) := by show _ = _; simpa using hV6
      have HT6 : Hid (w6.there w.heap.size 40 (hs6 ++ [r6]).toArray.size) := by show w6.there _ _ _; rw [show (hs6 ++ [r6]).toArray.size = 6 by simpa using ln6]; exact s6.two.there 40 6 (by rw [s6.len]; omega)
      have HI6 : Hid ((Tryz.prog.info? 46).map (·.size) = some (hs6 ++ [r6]).toArray.size) := by show _ = _; rw [show (hs6 ++ [r6]).toArray.size = 6 by simpa using ln6]; exact size46
      have HO6 : Hid ((hs6 ++ [r6]).toArray.all (·.oneCell') = true) := on6
      have d46 : V6.cell? ⟨w.heap.size, 46, none⟩ = some (.slice pc x.cm.length qc) := S6.out.two.cell ((S6.out.same 46 (by omega)).trans CC.out)
      have XC0 := hid (XC.out V6 S6.out.two.2.2)
      obtain ⟨fl6, hfl6⟩ : ∃ fl6, hs6 ++ [r6] = fl6 := ⟨_, rfl⟩
      rw [hfl6] at HV6 HT6 HI6 HO6
      clear hr6 hl6 hb6 ln6 ln6' on6 s6 hV6 t6 l6 c6 o6 zz6 k6 S5 HR6 XH0 hV5' f39 d39' XC
      rw [hfl6]
      go_wp2_with (refine wpList_store_mid rfl 46 _ _ rfl w.heap.size 40 fl6.toArray rfl rfl HT6.out HI6.out HO6.out ?_; rw [HV6.out])
      refine XC0.out.mono ?_
      rintro e w7 ⟨p7, c7, rfl, hl7, hb7⟩
      have s7 := S6.out.call hb7
      obtain ⟨V7, cl7, hV7, t7, l7, cc7, o7, zz7, k7⟩ := Two.mid [.slice p7 x.cm.length c7] s7.two 46 (by rw [s7.len]; simp)
      have S7 : Hid (Stage 7 47 w V7 cl7 cl x) := s7.put7 t7 l7 o7 (k7.less fun b h => h.1) ⟨_, rfl, fun j u hj => by simpa using cc7 j u hj, ⟨_, rfl, (hl7.less mClm S6.out.two.lt).kept mClm k7⟩⟩
      have hV7' : w7.setCell ⟨w.heap.size, 46, none⟩ (.slice p7 x.cm.length c7) = V7 := hV7
      have f46 : w7.frozen? ⟨w.heap.size, 46, none⟩ = false := frozen_zero s7.two.1 _
      have d46' : w7.cell? ⟨w.heap.size, 46, none⟩ = some (.slice pc x.cm.length qc) := s7.two.cell ((s7.same 46 (by omega)).trans CC.out)
      have I49 : Hid ((Tryz.prog.info? 49).map (·.size) = some cl7.length) := by show _ = _; rw [S7.out.len]; exact size49
      obtain ⟨hra, hth, W9, hW9, hld, hb9, s9, k9⟩ := S7.out.two.ret Tryz.underlying49 rfl I49.out
      have hmm : MsgIs (From w.heap.size W9) W9 cl7.toArray x := S7.out.done HM.out k9
      have HF : Hid (cl7.length = 47 ∧ MsgIs (From w.heap.size W9) W9 cl7.toArray x ∧ Below w.heap.size w W9) := ⟨S7.out.len, hmm, hb9⟩
      have HON : Hid (cl7.toArray.all (·.oneCell') = true) := msg_one hmm
      have HRA : Hid (V7.rangeAt w.heap.size 0 cl7) := hra
      have HTH : Hid (V7.there (w.heap.size + 1) 0 cl7.toArray.size) := hth
      have HW9 : Hid (V7.setCells (w.heap.size + 1) 0 cl7.toArray.toList = W9) := hW9
      have HLD : Hid ((loadVar 49 ⟨w.heap.size + 1, 0, none⟩).run Tryz.prog W9 = .ok (.agg cl7.toArray) W9) := hld
      have I49' : Hid ((Tryz.prog.info? 49).map (·.size) = some cl7.toArray.size) := by show _ = _; rw [show cl7.toArray.size = 47 by simpa using S7.out.len]; exact size49
      clear hl7 hb7 s7 hV7 t7 l7 cc7 o7 zz7 k7 S6 XC0 d46 hra hth hW9 hld hb9 s9 k9 hmm
      go_wp2_with (first | (refine wpList_load_mid rfl 49 _ rfl w.heap.size 0 rfl cl7 _ HRA.out Tryz.underlying49 rfl I49.out ?_) | (refine wpList_store_mid rfl 49 _ _ rfl (w.heap.size + 1) 0 cl7.toArray rfl rfl HTH.out I49'.out HON.out ?_; rw [HW9.out]))
      refine bodyPost_ret (v := .agg cl7.toArray) (by simp only [results, Tryz.results7]; simp [asAddr, Act.put, HLD.out]) rfl ?_
      exact ⟨cl7, rfl, HF.out⟩
end Go.Proofs.YtgdjhkcllpkiiaaGreatDoor
