/- Streams that are sent held against each other; told that less came: the walk of StreamBack. -/
import Derived.Test.YtnajchehdgagmaaBa
namespace Go.Proofs.Ytnajchehdgagmaa
open Go.Shelf Go.RowKit Go.Lib Go.Sort
set_option linter.unusedVariables false
set_option linter.unusedSimpArgs false
attribute [local go_sem ↓] Go.wp_at_zero Go.wp_at_succ
set_option maxRecDepth 100000 in
set_option maxHeartbeats 4000000 in
theorem sameOut_eq (cs cs' : List Value) (x : Ot) (K L : Nat → Prop) (w : World) (h : rOut K w cs x) (h' : rOut L w cs' x) (hK : ∀ b, K b → b < w.heap.size) (hL : ∀ b, L b → b < w.heap.size) :
    Calls Try.prog 16 #[.agg cs.toArray, .agg cs'.toArray] w fun e w' => e = .returned (.bool true) ∧ Below w.heap.size w w' := by
  obtain ⟨q, c, rfl, _, hl, _, hby⟩ := out_cells h
  obtain ⟨q', c', rfl, _, hl', _, _⟩ := out_cells h'
  obtain ⟨W0, hW0, hb0, hs0, g0, g1⟩ := two_boxes2 w #[.int .u64 (x.m.qb : Int), .int .u64 (x.m.qn : Int), .int .i64 x.m.at_, .int .i64 x.m.fr, .int .i64 x.m.tq, .slice q x.b.length c, .int .u64 (x.a : Int)] #[.int .u64 (x.m.qb : Int), .int .u64 (x.m.qn : Int), .int .i64 x.m.at_, .int .i64 x.m.fr, .int .i64 x.m.tq, .slice q' x.b.length c', .int .u64 (x.a : Int)] 33 33
  have hx63 : x.b.length ≤ 5864062014806 := by omega
  have hlt0 : w.heap.size < W0.heap.size := by omega
  have hlt1 : w.heap.size + 1 < W0.heap.size := by omega
  have HV : Hid (∀ V, Below W0.heap.size W0 V → V.heap[w.heap.size]? = some (.cells #[.int .u64 (x.m.qb : Int), .int .u64 (x.m.qn : Int), .int .i64 x.m.at_, .int .i64 x.m.fr, .int .i64 x.m.tq, .slice q x.b.length c, .int .u64 (x.a : Int)] 33 (0, 0)) ∧ V.heap[w.heap.size + 1]? = some (.cells #[.int .u64 (x.m.qb : Int), .int .u64 (x.m.qn : Int), .int .i64 x.m.at_, .int .i64 x.m.fr, .int .i64 x.m.tq, .slice q' x.b.length c', .int .u64 (x.a : Int)] 33 (0, 0)) ∧ Below w.heap.size w V ∧ ListIs rBch 1 24 K V (.slice q x.b.length c) x.b ∧ ListIs rBch 1 24 L V (.slice q' x.b.length c') x.b ∧ (∀ b, K b → b < V.heap.size) ∧ (∀ b, L b → b < V.heap.size)) := fun V hb => by
    have hbw := hb0.trans (hb.mono hb0.size)
    exact ⟨(hb.block _ hlt0).trans g0, (hb.block _ hlt1).trans g1, hbw, hl.mono mBch (fun _ h => h) (kept_of hK hbw), hl'.mono mBch (fun _ h => h) (kept_of hL hbw), fun b hb' => Nat.lt_of_lt_of_le (hK b hb') hbw.size, fun b hb' => Nat.lt_of_lt_of_le (hL b hb') hbw.size⟩
  have NE := neq_strm (x.m.qb : Int) (x.m.qn : Int) x.m.at_ x.m.fr x.m.tq
  have t1 : ((x.a : Int) != (x.a : Int)) = false := by simp
  have t2 : ((x.b.length : Int) != (x.b.length : Int)) = false := by simp
  have a0 := cell_of_row (k := 0) (v := .int .u64 (x.m.qb : Int)) g0 rfl
  have a1 := cell_of_row (k := 1) (v := .int .u64 (x.m.qn : Int)) g0 rfl
  have a2 := cell_of_row (k := 2) (v := .int .i64 x.m.at_) g0 rfl
  have a3 := cell_of_row (k := 3) (v := .int .i64 x.m.fr) g0 rfl
  have a4 := cell_of_row (k := 4) (v := .int .i64 x.m.tq) g0 rfl
  have a5 := cell_of_row (k := 5) (v := .slice q x.b.length c) g0 rfl
  have a6 := cell_of_row (k := 6) (v := .int .u64 (x.a : Int)) g0 rfl
  have b0 := cell_of_row (k := 0) (v := .int .u64 (x.m.qb : Int)) g1 rfl
  have b1 := cell_of_row (k := 1) (v := .int .u64 (x.m.qn : Int)) g1 rfl
  have b2 := cell_of_row (k := 2) (v := .int .i64 x.m.at_) g1 rfl
  have b3 := cell_of_row (k := 3) (v := .int .i64 x.m.fr) g1 rfl
  have b4 := cell_of_row (k := 4) (v := .int .i64 x.m.tq) g1 rfl
  have b5 := cell_of_row (k := 5) (v := .slice q' x.b.length c') g1 rfl
  have b6 := cell_of_row (k := 6) (v := .int .u64 (x.a : Int)) g1 rfl
  clear h h' hl hl' hK hL hb0 hs0 g0 g1 hlt0 hlt1 hby
  go_enter Try.func16, Try.ntmps16
  go_wp2_with fail
  clear a0 a1 a2 a3 a4 a5 a6 b0 b1 b2 b3 b4 b5 b6 hW0 NE t1 t2
  go_loopg [30] x.b.length (fun gf s30 wx => ∃ i : Nat, s30 = .int .i64 i ∧ i ≤ x.b.length ∧ x.b.length ≤ i + gf ∧ Hid (Below W0.heap.size W0 wx))
  case atStart => exact ⟨0, rfl, by omega, by omega, Below.refl _ _⟩
  case round =>
    obtain ⟨i, rfl, hi1, hgf, HB⟩ := hrel
    by_cases hi : i < x.b.length
    · obtain ⟨g', rfl⟩ : ∃ g', gk = g' + 1 := ⟨gk - 1, by omega⟩
      have hbw := HB.out
      obtain ⟨v1, v2, v3, v4, v5, v6, v7⟩ := HV.out wr hbw
      obtain ⟨b, o, p1, d1, rfl, hKb, _, _⟩ := bch_at v4 i hi
      obtain ⟨b', o', p2, d2, rfl, hLb, _, _⟩ := bch_at v5 i hi
      obtain ⟨y, hy⟩ : ∃ y, x.b[i] = y := ⟨_, rfl⟩
      have H2 : ∀ p : LaterS wr.heap.size wr, p.w.cell? ⟨w.heap.size, 5, none⟩ = some (.slice (some ⟨b, o, none⟩) x.b.length c) ∧ p.w.cell? ⟨w.heap.size + 1, 5, none⟩ = some (.slice (some ⟨b', o', none⟩) x.b.length c') := fun p => by
        obtain ⟨u1, u2, _⟩ := HV.out p.w (hbw.trans (p.h.mono hbw.size))
        exact ⟨cell_of_row (k := 5) u1 rfl, cell_of_row (k := 5) u2 rfl⟩
      obtain ⟨bb, oo, p1, d1, e, _, w1, l1⟩ := bch_at v4 i hi
      cases e
      obtain ⟨bb, oo, p2, d2, e, _, w2, l2⟩ := bch_at v5 i hi
      cases e
      rw [hy] at w1 w2 l1 l2
      have c5 := fun p => (H2 p).1
      have e5 := fun p => (H2 p).2
      have c0 : ∀ p : LaterS wr.heap.size wr, p.w.cell? ⟨b, o + i, none⟩ = some (.slice p1 y.length d1) := fun p => (p.h.cell (p := ⟨b, _, none⟩) (v6 b hKb)).trans w1
      have e0 : ∀ p : LaterS wr.heap.size wr, p.w.cell? ⟨b', o' + i, none⟩ = some (.slice p2 y.length d2) := fun p => (p.h.cell (p := ⟨b', _, none⟩) (v7 b' hLb)).trans w2
      have cS : Hid (∀ p : LaterS wr.heap.size wr, Calls Try.prog 14 #[.slice p1 y.length d1, .slice p2 y.length d2] p.w fun e w' => e = .returned (.bool true) ∧ Below p.w.heap.size p.w w') := fun p =>
        rows_eq _ _ y K L p.w (ListIs.later mRow l1 v6 p.h) (ListIs.later mRow l2 v7 p.h) (fun b hb => Nat.lt_of_lt_of_le (v6 b hb) p.h.size) (fun b hb => Nat.lt_of_lt_of_le (v7 b hb) p.h.size)
      have z0 : (0 : Int) ≤ (i : Int) := by omega
      have z1 : (i : Int) < (x.b.length : Int) := by omega
      clear H2 v1 v2 v3 v4 v5 v6 v7 hKb hLb w1 w2 l1 l2 hy HB
      go_wp2_with fail
      have inhL := laterInh
      refine wp_region_laterS mixedOnS (by kernel_rfl) ?_
      repeat (go_big_quiet_step ((go_at_call 14; exact calls_laterS (cS.out _))))
      refine wpQuiet_nil ?_
      intro w2 hw'
      obtain ⟨⟨wq, hwq⟩, hw''⟩ := hw'
      subst hw''
      go_wp2_with fail
      go_roundg g'
      case measure => omega
      case rel => exact ⟨i + 1, by go_num, by omega, by omega, hbw.trans (hwq.mono hbw.size)⟩
    · have z1 : ¬ (i : Int) < (x.b.length : Int) := by omega
      have HB2 : Hid (Below w.heap.size w wr) := (HV.out wr HB.out).2.2.1
      clear HB
      go_wp2_with fail
      go_ret
      exact ⟨rfl, HB2.out⟩
theorem outE_ack (x : Ot) (n : Nat) (h : outE x = 0) (hn : n ≤ x.b.length) : outE ⟨x.m, x.b, n⟩ = 0 := by
  obtain ⟨h1, h2, h3, h4, h5⟩ := outE_ok h
  unfold outE
  simp only []
  rw [if_neg (by omega), if_neg (by omega), if_neg (by omega), if_neg (by rw [h4]; simp), if_pos h5]
theorem open_lenS (x : Ot) : (sendP x).length = sendN x := by unfold sendP; simp
set_option maxRecDepth 100000 in
set_option maxHeartbeats 4000000 in
theorem back_any (cs : List Value) (x : Ot) (n : Nat) (K : Nat → Prop) (w : World) (h : rOut K w cs x) (hn : n < 18446744073709551616) (hK : ∀ b, K b → b < w.heap.size) :
    Calls Try.prog 6 #[.agg cs.toArray, .int .u64 (n : Int)] w fun e w' => e = .returned (.bool true) ∧ Below w.heap.size w w' := by
  obtain ⟨q, c, rfl, hok, hl, _, hby⟩ := out_cells h
  obtain ⟨W0, hW0⟩ : ∃ W0, w.alloc (.cells #[.int .u64 (x.m.qb : Int), .int .u64 (x.m.qn : Int), .int .i64 x.m.at_, .int .i64 x.m.fr, .int .i64 x.m.tq, .slice q x.b.length c, .int .u64 (x.a : Int)] 33) = W0 := ⟨_, rfl⟩
  have hb0 : Below w.heap.size w W0 := by rw [← hW0]; exact (Below.refl _ _).alloc (Nat.le_refl _) _
  have hg0 : W0.heap[w.heap.size]? = some (.cells #[.int .u64 (x.m.qb : Int), .int .u64 (x.m.qn : Int), .int .i64 x.m.at_, .int .i64 x.m.fr, .int .i64 x.m.tq, .slice q x.b.length c, .int .u64 (x.a : Int)] 33 (0, 0)) := by rw [← hW0]; exact heap_alloc_new w _
  have hs0 : w.heap.size < W0.heap.size := (Array.getElem?_eq_some_iff.1 hg0).1
  have HV : Hid (∀ V, Below W0.heap.size W0 V → V.rangeAt w.heap.size 0 [.int .u64 (x.m.qb : Int), .int .u64 (x.m.qn : Int), .int .i64 x.m.at_, .int .i64 x.m.fr, .int .i64 x.m.tq, .slice q x.b.length c, .int .u64 (x.a : Int)] ∧ V.rangeAt w.heap.size 0 [.int .u64 (x.m.qb : Int), .int .u64 (x.m.qn : Int), .int .i64 x.m.at_, .int .i64 x.m.fr, .int .i64 x.m.tq] ∧ Below w.heap.size w V ∧ rOut K V [.int .u64 (x.m.qb : Int), .int .u64 (x.m.qn : Int), .int .i64 x.m.at_, .int .i64 x.m.fr, .int .i64 x.m.tq, .slice q x.b.length c, .int .u64 (x.a : Int)] x ∧ (∀ b, K b → b < V.heap.size)) := fun V hb => by
    have hbw := hb0.trans (hb.mono hb0.size)
    have hgV := (hb.block _ hs0).trans hg0
    refine ⟨fun j u hu => by rw [Nat.zero_add]; exact cell_of_row hgV (by simpa using hu), fun j u hu => ?_, hbw, mOut _ _ _ _ _ _ (fun _ h => h) (kept_of hK hbw) h, fun b hb' => Nat.lt_of_lt_of_le (hK b hb') hbw.size⟩
    rw [Nat.zero_add]
    refine cell_of_row hgV ?_
    match j, hu with
      | 0, hu => exact hu
      | 1, hu => exact hu
      | 2, hu => exact hu
      | 3, hu => exact hu
      | 4, hu => exact hu
  have CL := hid (lives_any W0)
  have HOK : Hid (okS x.m ∧ n < 18446744073709551616) := ⟨hok.1, hn⟩
  have hx63 : x.b.length ≤ 5864062014806 := by omega
  clear h hK hl hok hb0 hg0 hs0 hby
  go_enter Try.func6, Try.ntmps6
  go_wp2_with fail
  refine CL.out.mono ?_
  rintro e w1 ⟨rfl, hb1⟩
  obtain ⟨v1, v2, v3, v4, v5⟩ := HV.out w1 hb1
  have HR1 : Hid (w1.rangeAt w.heap.size 0 [.int .u64 (x.m.qb : Int), .int .u64 (x.m.qn : Int), .int .i64 x.m.at_, .int .i64 x.m.fr, .int .i64 x.m.tq, .slice q x.b.length c, .int .u64 (x.a : Int)]) := v1
  have HB1 : Hid (Below W0.heap.size W0 w1) := hb1
  have CC := hid (checkOut_any _ x K w1 v4 v5)
  clear CL v1 v2 v3 v4 v5 hb1 hW0
  obtain ⟨E, hE⟩ : ∃ E, outE x = E := ⟨_, rfl⟩
  rw [hE] at CC
  go_wp2_with (refine wpList_load_mid rfl 33 _ rfl w.heap.size 0 rfl _ _ HR1.out Try.underlying33 rfl sz_Out ?_)
  refine CC.out.mono ?_
  rintro e w2 ⟨rfl, hb2⟩
  have hB2 : Below W0.heap.size W0 w2 := HB1.out.trans (hb2.mono HB1.out.size)
  obtain ⟨v1, v2, v3, v4, v5⟩ := HV.out w2 hB2
  by_cases hE0 : E = 0
  · subst hE0
    obtain ⟨o1, o2, o3, _, _⟩ := outE_ok hE
    have CA := hid (acked_any _ x x.m n K w2 v4 HOK.out.1 HOK.out.2 v5)
    have HR2 : Hid (w2.rangeAt w.heap.size 0 [.int .u64 (x.m.qb : Int), .int .u64 (x.m.qn : Int), .int .i64 x.m.at_, .int .i64 x.m.fr, .int .i64 x.m.tq, .slice q x.b.length c, .int .u64 (x.a : Int)]) := v1
    have HS2 : Hid (w2.rangeAt w.heap.size 0 [.int .u64 (x.m.qb : Int), .int .u64 (x.m.qn : Int), .int .i64 x.m.at_, .int .i64 x.m.fr, .int .i64 x.m.tq]) := v2
    have HB2 : Hid (Below W0.heap.size W0 w2) := hB2
    have HE := hid hE
    clear CC v1 v2 v3 v4 v5 hb2 hB2 hE HR1 HB1
    go_wp2_with (first | (refine wpList_load_mid rfl 33 _ rfl w.heap.size 0 rfl _ _ HR2.out Try.underlying33 rfl sz_Out ?_) | (refine wpList_load_mid rfl 26 _ rfl w.heap.size 0 rfl _ _ HS2.out Try.underlying26 rfl sz_Strm ?_))
    refine CA.out.mono ?_
    rintro e w3 ⟨cs3, rfl, hr3, hb3⟩
    have hB3 : Below W0.heap.size W0 w3 := HB2.out.trans (hb3.mono HB2.out.size)
    have hm9 : (x.b.length : Int) % 18446744073709551616 = (x.b.length : Int) := by omega
    by_cases hnl : n ≤ x.b.length
    · have hy : ackP x x.m n = ⟨x.m, x.b, n⟩ := by unfold ackP; rw [same_refl, decide_eq_true hnl]; rfl
      rw [hy] at hr3
      obtain ⟨q3, c3, rfl, _⟩ := out_cells hr3
      obtain ⟨WA, hWA, hth, WS, hWS, hrs, hss, hbs, hrl⟩ := box_new w3 33 #[.int .u64 0, .int .u64 0, .int .i64 0, .int .i64 0, .int .i64 0, .slice none 0 0, .int .u64 0] [.int .u64 (x.m.qb : Int), .int .u64 (x.m.qn : Int), .int .i64 x.m.at_, .int .i64 x.m.fr, .int .i64 x.m.tq, .slice q3 x.b.length c3, .int .u64 (n : Int)] rfl
      have HTH : Hid (WA.there w3.heap.size 0 7) := hth
      have HWS : Hid (WA.setCells w3.heap.size 0 (#[.int .u64 (x.m.qb : Int), .int .u64 (x.m.qn : Int), .int .i64 x.m.at_, .int .i64 x.m.fr, .int .i64 x.m.tq, .slice q3 x.b.length c3, .int .u64 (n : Int)] : Array Value).toList = WS) := hWS
      have HON : Hid ((#[.int .u64 (x.m.qb : Int), .int .u64 (x.m.qn : Int), .int .i64 x.m.at_, .int .i64 x.m.fr, .int .i64 x.m.tq, .slice q3 x.b.length c3, .int .u64 (n : Int)] : Array Value).all (·.oneCell') = true) := by show _ = _; simp [Value.oneCell']
      have HRS : Hid (WS.rangeAt w3.heap.size 0 [.int .u64 (x.m.qb : Int), .int .u64 (x.m.qn : Int), .int .i64 x.m.at_, .int .i64 x.m.fr, .int .i64 x.m.tq, .slice q3 x.b.length c3, .int .u64 (n : Int)]) := hrs
      have z1 : ¬ (x.b.length : Int) < (n : Int) := by omega
      have hBS : Below W0.heap.size W0 WS := hB3.trans (hbs.mono hB3.size)
      obtain ⟨v1, v2, v3, v4, v5⟩ := HV.out WS hBS
      have f5 : WS.cell? ⟨w.heap.size, 5, none⟩ = some (.slice q x.b.length c) := by have := v1 5 _ rfl; rwa [Nat.zero_add] at this
      obtain ⟨y, hyy⟩ : ∃ y : Ot, y = ⟨x.m, x.b, n⟩ := ⟨_, rfl⟩
      have hrY : rOut (From w2.heap.size w3) WS [.int .u64 (x.m.qb : Int), .int .u64 (x.m.qn : Int), .int .i64 x.m.at_, .int .i64 x.m.fr, .int .i64 x.m.tq, .slice q3 x.b.length c3, .int .u64 (n : Int)] y := by rw [hyy]; exact mOut _ _ _ _ _ _ (fun _ h => h) (kept_of From.lt hbs) hr3
      have hEy : outE y = 0 := by rw [hyy]; exact outE_ack x n HE.out hnl
      have C9 := hid (send_any _ y (From w2.heap.size w3) WS hrY hEy (fun b hb => Nat.lt_of_lt_of_le hb.2 hbs.size))
      have hNy : sendN y = min x.b.length (n + 4) - n := by rw [hyy]; rfl
      have HMy : Hid (∀ k, sendM y k = ⟨x.m, n + k, decide (n + k + 1 = x.b.length), x.b[n + k]?.getD []⟩) := fun k => by rw [hyy]; rfl
      have HBS : Hid (Below W0.heap.size W0 WS) := hBS
      have HW3 : Hid (w3.heap.size < WS.heap.size) := by show _ < _; omega
      clear CA HR2 HS2 HB2 hr3 hb3 hB3 hy hth hWS hrs hss hbs hrl v1 v2 v3 v4 v5 hrY hEy hyy hBS
      go_wp2_with (first | (refine wpList_store_mid rfl 33 _ _ rfl w3.heap.size 0 #[.int .u64 (x.m.qb : Int), .int .u64 (x.m.qn : Int), .int .i64 x.m.at_, .int .i64 x.m.fr, .int .i64 x.m.tq, .slice q3 x.b.length c3, .int .u64 (n : Int)] rfl rfl HTH.out sz_Out HON.out ?_; rw [HWS.out]) | (refine wpList_load_mid rfl 33 _ rfl w3.heap.size 0 rfl _ _ HRS.out Try.underlying33 rfl sz_Out ?_))
      refine C9.out.mono ?_
      rintro e w4 ⟨u, rfl, hO4, hb4⟩
      have hB4 : Below W0.heap.size W0 w4 := HBS.out.trans (hb4.mono HBS.out.size)
      obtain ⟨v1, v2, v3, v4, v5⟩ := HV.out w4 hB4
      have hLS := open_lenS y
      obtain ⟨p, c4, rfl, hl4⟩ := hO4.list mMg (bytes := 640) (by rw [hLS, hNy]; omega)
      obtain ⟨L, hL⟩ : ∃ L, (sendP y).length = L := ⟨_, rfl⟩
      have HL : Hid ((sendP y).length = L) := hL
      rw [hL] at hl4
      have hLv : L = min x.b.length (n + 4) - n := by omega
      have hL4 : L ≤ 4 := by omega
      have g5 : w4.cell? ⟨w.heap.size, 5, none⟩ = some (.slice q x.b.length c) := by have := v1 5 _ rfl; rwa [Nat.zero_add] at this
      have g6 : w4.cell? ⟨w3.heap.size, 6, none⟩ = some (.int .u64 (n : Int)) := by
        rw [hb4.cell (p := ⟨w3.heap.size, 6, none⟩) HW3.out]
        have := HRS.out 6 _ rfl; rwa [Nat.zero_add] at this
      obtain ⟨bb, hbb⟩ : ∃ bb, decide (n = x.b.length) = bb := ⟨_, rfl⟩
      have e1 : ((L : Int) == 0) = bb := by
        rw [← hbb]
        by_cases e : n = x.b.length
        · rw [decide_eq_true e]; simp; omega
        · rw [decide_eq_false e]; exact beq_eq_false_iff_ne.2 (by omega)
      have e2 : ((n : Int) == (x.b.length : Int)) = bb := by
        rw [← hbb]
        by_cases e : n = x.b.length
        · rw [decide_eq_true e]; simp; omega
        · rw [decide_eq_false e]; exact beq_eq_false_iff_ne.2 (by omega)
      have t1 : ((n : Int) != (n : Int)) = false := by simp
      have z4 : ¬ (4 : Int) < (L : Int) := by omega
      have t3 : (bb != bb) = false := by simp
      have HB4 : Hid (Below W0.heap.size W0 w4) := hB4
      have HL4 : Hid (ListIs rMg 47 640 (From WS.heap.size w4) w4 (.slice p L c4) (sendP y)) := hl4
      have HLV : Hid (L = min x.b.length (n + 4) - n) := hLv
      have hnL : n + L ≤ x.b.length := by omega
      rw [show (Value.slice p (sendP y).length c4) = .slice p L c4 by rw [hL]]
      clear C9 hO4 hb4 hB4 v1 v2 v3 v4 v5 hLS hl4 hL hLv hbb HTH HWS HON HRS HBS HW3 hWA hNy
      go_wp2_with fail
      clear g6 t1 z4 t3 e1 e2
      go_loopg [61] L (fun gf s61 wx => ∃ i : Nat, s61 = .int .i64 i ∧ i ≤ L ∧ L ≤ i + gf ∧ Hid (Below w4.heap.size w4 wx))
      case atStart => exact ⟨0, rfl, by omega, by omega, Below.refl _ _⟩
      case round =>
        obtain ⟨i, rfl, hi1, hgf, HB⟩ := hrel
        clear g5
        have hB : Below W0.heap.size W0 wr := HB4.out.trans (HB.out.mono HB4.out.size)
        obtain ⟨v1, v2, v3, v4, v5⟩ := HV.out wr hB
        by_cases hi : i < L
        · obtain ⟨g', rfl⟩ : ∃ g', gk = g' + 1 := ⟨gk - 1, by omega⟩
          obtain ⟨g, o, cl, rfl, hKg, hrg, hlen, hmg⟩ := msg_at (HL4.out.later mMg From.lt HB.out) i (by rw [HL.out]; exact hi)
          have hel : (sendP y)[i]'(by rw [HL.out]; exact hi) = sendM y i := by unfold sendP; simp
          rw [hel, HMy.out i] at hmg
          obtain ⟨lb, hlb⟩ : ∃ lb, decide (n + i + 1 = x.b.length) = lb := ⟨_, rfl⟩
          rw [hlb] at hmg
          obtain ⟨qm, cm, ecl, _⟩ := mg_cells hmg
          obtain ⟨WA, hWA, hth, WS2, hWS2, hrs, hss, hbs, hrl⟩ := box_new wr 65 zM cl (by rw [hlen]; rfl)
          have k37 : WS2.cell? ⟨wr.heap.size, 37, none⟩ = some (.int .u64 ((n : Int) + (i : Int))) := by
            have := hrs 37 (.int .u64 ((n + i : Nat) : Int)) (by rw [ecl]; rfl)
            rw [Nat.zero_add] at this
            rw [this]; push_cast; rfl
          have k38 : WS2.cell? ⟨wr.heap.size, 38, none⟩ = some (.bool lb) := by have := hrs 38 (.bool lb) (by rw [ecl]; rfl); rwa [Nat.zero_add] at this
          have HRM : Hid (WS2.rangeAt wr.heap.size 2 [.int .u64 (x.m.qb : Int), .int .u64 (x.m.qn : Int), .int .i64 x.m.at_, .int .i64 x.m.fr, .int .i64 x.m.tq]) := fun j u hu => by
            have := hrs (2 + j) u (by
              rw [ecl]
              match j, hu with
              | 0, hu => exact hu
              | 1, hu => exact hu
              | 2, hu => exact hu
              | 3, hu => exact hu
              | 4, hu => exact hu)
            rwa [Nat.zero_add] at this
          have hBS2 : Below W0.heap.size W0 WS2 := hB.trans (hbs.mono hB.size)
          obtain ⟨y1, y2, y3, y4, y5⟩ := HV.out WS2 hBS2
          have g5 : WS2.cell? ⟨w.heap.size, 5, none⟩ = some (.slice q x.b.length c) := by have := y1 5 _ rfl; rwa [Nat.zero_add] at this
          have HRO : Hid (WS2.rangeAt w.heap.size 0 [.int .u64 (x.m.qb : Int), .int .u64 (x.m.qn : Int), .int .i64 x.m.at_, .int .i64 x.m.fr, .int .i64 x.m.tq]) := y2
          have HTH : Hid (WA.there wr.heap.size 0 cl.toArray.size) := hth
          have HWS2 : Hid (WA.setCells wr.heap.size 0 cl = WS2) := hWS2
          have HONE : Hid (cl.toArray.all (·.oneCell') = true) := by rw [ecl]; exact mgC_one 4 x.m (n + i) lb qm _ cm
          have SZM : Hid ((Try.prog.info? 65).map (·.size) = some cl.length) := by show _ = _; rw [hlen]; exact sz_Msg
          have SZA : Hid ((Try.prog.info? 65).map (·.size) = some cl.toArray.size) := by show _ = _; rw [List.size_toArray, hlen]; exact sz_Msg
          have HRG : Hid (wr.rangeAt g (o + i * 47) cl) := hrg
          have HWA : Hid (wr.alloc (.cells zM 65) = WA) := hWA
          have he : ((n : Int) + (i : Int) == (x.b.length : Int) - 1) = lb := by
            rw [← hlb]
            by_cases e : n + i + 1 = x.b.length
            · rw [decide_eq_true e]; simp; omega
            · rw [decide_eq_false e]; exact beq_eq_false_iff_ne.2 (by omega)
          have hw1 : ((n : Int) + (i : Int)) % 18446744073709551616 = (n : Int) + (i : Int) := by omega
          have hi9 : (i : Int) % 18446744073709551616 = (i : Int) := by omega
          have hs1 : IntKind.u64.wrap ((x.b.length : Int) - 1) = (x.b.length : Int) - 1 := by rw [IntKind.wrap_u64]; omega
          have z0 : (0 : Int) ≤ (i : Int) := by omega
          have zi : (i : Int) < (L : Int) := by omega
          have t1 : ((n : Int) + (i : Int) != (n : Int) + (i : Int)) = false := by simp
          have t2 : (lb != lb) = false := by simp
          have NE := neq_strm (x.m.qb : Int) (x.m.qn : Int) x.m.at_ x.m.fr x.m.tq
          have HB2 : Hid (Below w4.heap.size w4 WS2) := HB.out.trans (hbs.mono HB.out.size)
          clear HB hB v1 v2 v3 v4 v5 hKg hrg hlen hmg hel hlb ecl hth hWS2 hrs hss hbs hrl hBS2 y1 y2 y3 y4 y5 hWA
          go_wp2_with (first | (refine wpList_load_mid rfl 65 _ rfl g (o + i * 47) rfl _ _ HRG.out Try.underlying65 rfl SZM.out ?_) | (refine wpList_alloc_z rfl 65 rfl zM (zeroM _) ?_; rw [HWA.out]) | (refine wpList_store_mid rfl 65 _ _ rfl wr.heap.size 0 cl.toArray rfl rfl HTH.out SZA.out HONE.out ?_; rw [show WA.setCells wr.heap.size 0 cl.toArray.toList = WS2 from HWS2.out]) | (refine wpList_load_midH rfl 26 _ rfl wr.heap.size 2 rfl _ _ HRM.out Try.underlying26 rfl sz_Strm ?_) | (refine wpList_load_midH rfl 26 _ rfl w.heap.size 0 rfl _ _ HRO.out Try.underlying26 rfl sz_Strm ?_))
          go_roundg g'
          case measure => omega
          case rel => exact ⟨i + 1, by go_num, by omega, by omega, HB2⟩
        · have zi : ¬ (i : Int) < (L : Int) := by omega
          have HBF : Hid (Below w.heap.size w wr) := v3
          clear HB hB v1 v2 v3 v4 v5
          go_wp2_with fail
          go_ret
          exact ⟨rfl, HBF.out⟩
    · have hy : ackP x x.m n = x := by unfold ackP; rw [same_refl, decide_eq_false hnl]; rfl
      rw [hy] at hr3
      obtain ⟨q3, c3, rfl, _⟩ := out_cells hr3
      obtain ⟨WA, hWA, hth, WS, hWS, hrs, hss, hbs, hrl⟩ := box_new w3 33 #[.int .u64 0, .int .u64 0, .int .i64 0, .int .i64 0, .int .i64 0, .slice none 0 0, .int .u64 0] [.int .u64 (x.m.qb : Int), .int .u64 (x.m.qn : Int), .int .i64 x.m.at_, .int .i64 x.m.fr, .int .i64 x.m.tq, .slice q3 x.b.length c3, .int .u64 (x.a : Int)] rfl
      have HTH : Hid (WA.there w3.heap.size 0 7) := hth
      have HWS : Hid (WA.setCells w3.heap.size 0 (#[.int .u64 (x.m.qb : Int), .int .u64 (x.m.qn : Int), .int .i64 x.m.at_, .int .i64 x.m.fr, .int .i64 x.m.tq, .slice q3 x.b.length c3, .int .u64 (x.a : Int)] : Array Value).toList = WS) := hWS
      have HON : Hid ((#[.int .u64 (x.m.qb : Int), .int .u64 (x.m.qn : Int), .int .i64 x.m.at_, .int .i64 x.m.fr, .int .i64 x.m.tq, .slice q3 x.b.length c3, .int .u64 (x.a : Int)] : Array Value).all (·.oneCell') = true) := by show _ = _; simp [Value.oneCell']
      have HRS : Hid (WS.rangeAt w3.heap.size 0 [.int .u64 (x.m.qb : Int), .int .u64 (x.m.qn : Int), .int .i64 x.m.at_, .int .i64 x.m.fr, .int .i64 x.m.tq, .slice q3 x.b.length c3, .int .u64 (x.a : Int)]) := hrs
      have z1 : (x.b.length : Int) < (n : Int) := by omega
      have hBS : Below W0.heap.size W0 WS := hB3.trans (hbs.mono hB3.size)
      obtain ⟨v1, v2, v3, v4, v5⟩ := HV.out WS hBS
      have f5 : WS.cell? ⟨w.heap.size, 5, none⟩ = some (.slice q x.b.length c) := by have := v1 5 _ rfl; rwa [Nat.zero_add] at this
      have CS := hid (sameOut_eq [.int .u64 (x.m.qb : Int), .int .u64 (x.m.qn : Int), .int .i64 x.m.at_, .int .i64 x.m.fr, .int .i64 x.m.tq, .slice q3 x.b.length c3, .int .u64 (x.a : Int)] [.int .u64 (x.m.qb : Int), .int .u64 (x.m.qn : Int), .int .i64 x.m.at_, .int .i64 x.m.fr, .int .i64 x.m.tq, .slice q x.b.length c, .int .u64 (x.a : Int)] x (From w2.heap.size w3) K WS (mOut _ _ _ _ _ _ (fun _ h => h) (kept_of From.lt hbs) hr3) v4 (fun b hb => Nat.lt_of_lt_of_le hb.2 hbs.size) v5)
      have HRA : Hid (WS.rangeAt w.heap.size 0 [.int .u64 (x.m.qb : Int), .int .u64 (x.m.qn : Int), .int .i64 x.m.at_, .int .i64 x.m.fr, .int .i64 x.m.tq, .slice q x.b.length c, .int .u64 (x.a : Int)]) := v1
      have HBS : Hid (Below w.heap.size w WS) := v3
      clear CA HR2 HS2 HB2 hr3 hb3 hB3 hy hth hWS hrs hss hbs hrl v1 v2 v3 v4 v5 hBS
      go_wp2_with (first | (refine wpList_store_mid rfl 33 _ _ rfl w3.heap.size 0 #[.int .u64 (x.m.qb : Int), .int .u64 (x.m.qn : Int), .int .i64 x.m.at_, .int .i64 x.m.fr, .int .i64 x.m.tq, .slice q3 x.b.length c3, .int .u64 (x.a : Int)] rfl rfl HTH.out sz_Out HON.out ?_; rw [HWS.out]) | (refine wpList_load_mid rfl 33 _ rfl w3.heap.size 0 rfl _ _ HRS.out Try.underlying33 rfl sz_Out ?_) | (refine wpList_load_mid rfl 33 _ rfl w.heap.size 0 rfl _ _ HRA.out Try.underlying33 rfl sz_Out ?_))
      refine CS.out.mono ?_
      rintro e w4 ⟨rfl, hb4⟩
      have HB4 : Hid (Below w.heap.size w w4) := HBS.out.trans (hb4.mono HBS.out.size)
      clear CS hb4
      go_wp2_with fail
      go_ret
      exact ⟨rfl, HB4.out⟩
  · have zE : (E != 0) = true := by simp [hE0]
    have HB2 : Hid (Below w.heap.size w w2) := v3
    clear CC v1 v2 v3 v4 v5 hb2 hB2 hE hE0
    go_wp2_with fail
    go_ret
    exact ⟨rfl, HB2.out⟩
end Go.Proofs.Ytnajchehdgagmaa
