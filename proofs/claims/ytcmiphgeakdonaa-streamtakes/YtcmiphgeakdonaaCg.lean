/- The reference: what is under way; what either sends of one that is not right. -/
import Derived.Test.YtcmiphgeakdonaaCf
namespace Go.Proofs.Ytcmiphgeakdonaa
open Go.Shelf Go.RowKit Go.Lib Go.Sort
set_option linter.unusedVariables false
set_option linter.unusedSimpArgs false
attribute [local go_sem ↓] Go.wp_at_zero Go.wp_at_succ
theorem outE_two (x : Ot) (h : outE x ≠ 0) : outE x = 6 := by
  unfold outE at h ⊢
  repeat' split
  all_goals first | rfl | (exfalso; apply h; simp_all; done) | skip
set_option maxRecDepth 100000 in
set_option maxHeartbeats 4000000 in
theorem send_bad (cs : List Value) (x : Ot) (K : Nat → Prop) (w : World) (h : rOut K w cs x) (hx0 : outE x = 6) (hK : ∀ b, K b → b < w.heap.size) :
    Calls Try.prog 8 #[.agg cs.toArray] w fun e w' => e = .returned (.tuple #[.slice none 0 0, .int .i64 6]) ∧ Below w.heap.size w w' := by
  obtain ⟨q, c, rfl, ⟨hok, ha⟩, hl, hcap, hby⟩ := out_cells h
  obtain ⟨W0, hW0⟩ : ∃ W0, w.alloc (.cells #[.int .u64 (x.m.qb : Int), .int .u64 (x.m.qn : Int), .int .i64 x.m.at_, .int .i64 x.m.fr, .int .i64 x.m.tq, .slice q x.b.length c, .int .u64 (x.a : Int)] 29) = W0 := ⟨_, rfl⟩
  have hb0 : Below w.heap.size w W0 := by rw [← hW0]; exact (Below.refl _ _).alloc (Nat.le_refl _) _
  have hg0 : W0.heap[w.heap.size]? = some (.cells #[.int .u64 (x.m.qb : Int), .int .u64 (x.m.qn : Int), .int .i64 x.m.at_, .int .i64 x.m.fr, .int .i64 x.m.tq, .slice q x.b.length c, .int .u64 (x.a : Int)] 29 (0, 0)) := by rw [← hW0]; exact heap_alloc_new w _
  have C1 : Hid (Calls Try.prog 15 #[.agg #[.int .u64 (x.m.qb : Int), .int .u64 (x.m.qn : Int), .int .i64 x.m.at_, .int .i64 x.m.fr, .int .i64 x.m.tq, .slice q x.b.length c, .int .u64 (x.a : Int)]] W0 fun e w' => e = .returned (.int .i64 6) ∧ Below W0.heap.size W0 w') := by have := checkOut_any _ x K W0 (mOut _ _ _ _ _ _ (fun _ h => h) (kept_of hK hb0) h) (fun b hb' => Nat.lt_of_lt_of_le (hK b hb') hb0.size); rw [hx0] at this; exact this
  have HR0 : Hid (W0.rangeAt w.heap.size 0 [.int .u64 (x.m.qb : Int), .int .u64 (x.m.qn : Int), .int .i64 x.m.at_, .int .i64 x.m.fr, .int .i64 x.m.tq, .slice q x.b.length c, .int .u64 (x.a : Int)]) := fun j u hu => by rw [Nat.zero_add]; exact cell_of_row hg0 (by simpa using hu)
  have HB0 : Hid (Below w.heap.size w W0) := hb0
  clear h hx0 hK hl hcap hby hok hb0 hg0
  go_enter Try.func8, Try.ntmps8
  go_wp2_with (refine wpList_load_mid rfl 29 _ rfl w.heap.size 0 rfl _ _ HR0.out Try.underlying29 rfl sz_Out ?_)
  refine C1.out.mono ?_
  rintro e w1 ⟨rfl, hb1⟩
  have HB1 : Hid (Below w.heap.size w w1) := HB0.out.trans (hb1.mono HB0.out.size)
  clear hb1 C1 HR0 hW0 HB0
  go_wp2_with fail
  go_ret2
  exact ⟨rfl, HB1.out⟩
set_option maxRecDepth 100000 in
set_option maxHeartbeats 4000000 in
theorem refSend_bad (cs : List Value) (x : Ot) (K : Nat → Prop) (w : World) (h : rOut K w cs x) (hx0 : outE x = 6) (hK : ∀ b, K b → b < w.heap.size) :
    Calls Try.prog 9 #[.agg cs.toArray] w fun e w' => e = .returned (.tuple #[.slice none 0 0, .int .i64 6]) ∧ Below w.heap.size w w' := by
  obtain ⟨q, c, rfl, ⟨hok, ha⟩, hl, hcap, hby⟩ := out_cells h
  obtain ⟨W0, hW0⟩ : ∃ W0, w.alloc (.cells #[.int .u64 (x.m.qb : Int), .int .u64 (x.m.qn : Int), .int .i64 x.m.at_, .int .i64 x.m.fr, .int .i64 x.m.tq, .slice q x.b.length c, .int .u64 (x.a : Int)] 29) = W0 := ⟨_, rfl⟩
  have hb0 : Below w.heap.size w W0 := by rw [← hW0]; exact (Below.refl _ _).alloc (Nat.le_refl _) _
  have hg0 : W0.heap[w.heap.size]? = some (.cells #[.int .u64 (x.m.qb : Int), .int .u64 (x.m.qn : Int), .int .i64 x.m.at_, .int .i64 x.m.fr, .int .i64 x.m.tq, .slice q x.b.length c, .int .u64 (x.a : Int)] 29 (0, 0)) := by rw [← hW0]; exact heap_alloc_new w _
  have C1 : Hid (Calls Try.prog 16 #[.agg #[.int .u64 (x.m.qb : Int), .int .u64 (x.m.qn : Int), .int .i64 x.m.at_, .int .i64 x.m.fr, .int .i64 x.m.tq, .slice q x.b.length c, .int .u64 (x.a : Int)]] W0 fun e w' => e = .returned (.int .i64 6) ∧ Below W0.heap.size W0 w') := by have := refCheckOut_any _ x K W0 (mOut _ _ _ _ _ _ (fun _ h => h) (kept_of hK hb0) h) (fun b hb' => Nat.lt_of_lt_of_le (hK b hb') hb0.size); rw [hx0] at this; exact this
  have HR0 : Hid (W0.rangeAt w.heap.size 0 [.int .u64 (x.m.qb : Int), .int .u64 (x.m.qn : Int), .int .i64 x.m.at_, .int .i64 x.m.fr, .int .i64 x.m.tq, .slice q x.b.length c, .int .u64 (x.a : Int)]) := fun j u hu => by rw [Nat.zero_add]; exact cell_of_row hg0 (by simpa using hu)
  have HB0 : Hid (Below w.heap.size w W0) := hb0
  clear h hx0 hK hl hcap hby hok hb0 hg0
  go_enter Try.func9, Try.ntmps9
  go_wp2_with (refine wpList_load_mid rfl 29 _ rfl w.heap.size 0 rfl _ _ HR0.out Try.underlying29 rfl sz_Out ?_)
  refine C1.out.mono ?_
  rintro e w1 ⟨rfl, hb1⟩
  have HB1 : Hid (Below w.heap.size w w1) := HB0.out.trans (hb1.mono HB0.out.size)
  clear hb1 C1 HR0 hW0 HB0
  go_wp2_with fail
  go_ret2
  exact ⟨rfl, HB1.out⟩
set_option maxRecDepth 100000 in
set_option maxHeartbeats 4000000 in
theorem refSend_any (cs : List Value) (x : Ot) (K : Nat → Prop) (w : World) (h : rOut K w cs x) (hx0 : outE x = 0) (hK : ∀ b, K b → b < w.heap.size) :
    Calls Try.prog 9 #[.agg cs.toArray] w fun e w' => SndR w x e w' := by
  obtain ⟨o1, o2, o3, _, _⟩ := outE_ok hx0
  obtain ⟨q, c, rfl, ⟨hok, ha⟩, hl, hcap, hby⟩ := out_cells h
  obtain ⟨W0, hW0⟩ : ∃ W0, w.alloc (.cells #[.int .u64 (x.m.qb : Int), .int .u64 (x.m.qn : Int), .int .i64 x.m.at_, .int .i64 x.m.fr, .int .i64 x.m.tq, .slice q x.b.length c, .int .u64 (x.a : Int)] 29) = W0 := ⟨_, rfl⟩
  have hb0 : Below w.heap.size w W0 := by rw [← hW0]; exact (Below.refl _ _).alloc (Nat.le_refl _) _
  have hg0 : W0.heap[w.heap.size]? = some (.cells #[.int .u64 (x.m.qb : Int), .int .u64 (x.m.qn : Int), .int .i64 x.m.at_, .int .i64 x.m.fr, .int .i64 x.m.tq, .slice q x.b.length c, .int .u64 (x.a : Int)] 29 (0, 0)) := by rw [← hW0]; exact heap_alloc_new w _
  have hs0 : w.heap.size < W0.heap.size := (Array.getElem?_eq_some_iff.1 hg0).1
  have HV : Hid (∀ V, Below W0.heap.size W0 V → V.rangeAt w.heap.size 0 [.int .u64 (x.m.qb : Int), .int .u64 (x.m.qn : Int), .int .i64 x.m.at_, .int .i64 x.m.fr, .int .i64 x.m.tq] ∧ V.cell? ⟨w.heap.size, 5, none⟩ = some (.slice q x.b.length c) ∧ V.cell? ⟨w.heap.size, 6, none⟩ = some (.int .u64 (x.a : Int)) ∧ Below w.heap.size w V ∧ rOut K V [.int .u64 (x.m.qb : Int), .int .u64 (x.m.qn : Int), .int .i64 x.m.at_, .int .i64 x.m.fr, .int .i64 x.m.tq, .slice q x.b.length c, .int .u64 (x.a : Int)] x ∧ (∀ b, K b → b < V.heap.size) ∧ ListIs rBch 1 24 K V (.slice q x.b.length c) x.b) := fun V hb => by
    have hbw := hb0.trans (hb.mono hb0.size)
    have hkk := kept_of hK hbw
    have hgV := (hb.block _ hs0).trans hg0
    refine ⟨fun j u hu => ?_, cell_of_row (k := 5) hgV rfl, cell_of_row (k := 6) hgV rfl, hbw, mOut _ _ _ _ _ _ (fun _ h => h) hkk h, fun b hb' => Nat.lt_of_lt_of_le (hK b hb') hbw.size, hl.mono mBch (fun _ h => h) hkk⟩
    rw [Nat.zero_add]
    refine cell_of_row hgV ?_
    match j, hu with
    | 0, hu => exact hu
    | 1, hu => exact hu
    | 2, hu => exact hu
    | 3, hu => exact hu
    | 4, hu => exact hu
  obtain ⟨v1, v2, v3, v4, v5, v6, v7⟩ := HV.out W0 (Below.refl _ _)
  have C1 : Hid (Calls Try.prog 16 #[.agg #[.int .u64 (x.m.qb : Int), .int .u64 (x.m.qn : Int), .int .i64 x.m.at_, .int .i64 x.m.fr, .int .i64 x.m.tq, .slice q x.b.length c, .int .u64 (x.a : Int)]] W0 fun e w' => e = .returned (.int .i64 0) ∧ Below W0.heap.size W0 w') := by have := refCheckOut_any _ x K W0 v5 v6; rw [hx0] at this; exact this
  have HR0 : Hid (W0.rangeAt w.heap.size 0 [.int .u64 (x.m.qb : Int), .int .u64 (x.m.qn : Int), .int .i64 x.m.at_, .int .i64 x.m.fr, .int .i64 x.m.tq, .slice q x.b.length c, .int .u64 (x.a : Int)]) := fun j u hu => by rw [Nat.zero_add]; exact cell_of_row hg0 (by simpa using hu)
  have HS0 : Hid (w.heap.size < W0.heap.size) := hs0
  have hN : sendN x = min x.b.length (x.a + 4) - x.a := rfl
  obtain ⟨N, hNN⟩ : ∃ N, sendN x = N := ⟨_, rfl⟩
  have HN : Hid (sendN x = N) := hNN
  have hNl : N ≤ 4 ∧ x.a + N ≤ x.b.length := by rw [← hNN, hN]; omega
  have hNm : x.a + N = x.b.length ∨ N = 4 := by rw [← hNN, hN]; omega
  have ha5 : x.a ≤ 512 := by omega
  have HOK : Hid (okS x.m) := hok
  clear h hx0 hK hl hcap hby hok hb0 hg0 hs0 v1 v2 v3 v4 v5 v6 v7 hN hNN
  go_enter Try.func9, Try.ntmps9
  go_wp2_with (refine wpList_load_mid rfl 29 _ rfl w.heap.size 0 rfl _ _ HR0.out Try.underlying29 rfl sz_Out ?_)
  refine C1.out.mono ?_
  rintro e w1 ⟨rfl, hb1⟩
  obtain ⟨v1, v2, v3, v4, v5, v6, v7⟩ := HV.out w1 hb1
  have HB1 : Hid (Below W0.heap.size W0 w1) := hb1
  clear v1 v4 v5 v6 v7 hb1 C1 HR0 hW0
  go_wp2_with fail
  go_loopg [4, 5] N (fun gf s4 s5 wx => ∃ (p : Option Addr) (cu i k : Nat), s4 = .slice p k cu ∧ s5 = .int .i64 (i : Int) ∧ k ≤ N ∧ x.a ≤ i ∧ i ≤ x.a + N ∧ x.a + N ≤ i + gf ∧ Hid (i = x.a + k) ∧ Hid (OwnR rMg 47 62 W0.heap.size wx (.slice p k cu) ((sendP x).take k)) ∧ Hid (Below W0.heap.size W0 wx))
  case atStart => exact ⟨none, 0, x.a, 0, rfl, rfl, by omega, by omega, by omega, by omega, rfl, OwnR.none (World.ownsRow_nil _ _ _ _), HB1⟩
  case round =>
    obtain ⟨p, cu, i, k, rfl, rfl, hkN0, hi1, hi2, hgf, HIK, HJ, HB⟩ := hrel
    clear v2 v3 HB1
    obtain ⟨v1, v2, v3, v4, v5, v6, v7⟩ := HV.out wr HB.out
    by_cases hk : i < x.a + N
    · obtain ⟨g', rfl⟩ : ∃ g', gk = g' + 1 := ⟨gk - 1, by omega⟩
      have hib : i < x.b.length := by omega
      obtain ⟨bb, o, pm, cm, rfl, hKb, hcell, hlm⟩ := bch_at v7 i hib
      obtain ⟨ym, hy⟩ : ∃ ym, x.b[i] = ym := ⟨_, rfl⟩
      have hgd : x.b[i]?.getD [] = ym := by rw [List.getElem?_eq_getElem hib]; exact hy
      rw [hy] at hcell hlm
      obtain ⟨lb, hlb⟩ : ∃ lb, decide (i + 1 = x.b.length) = lb := ⟨_, rfl⟩
      have he : ((i : Int) == (x.b.length : Int) - 1) = lb := by
        rw [← hlb]
        by_cases e : i + 1 = x.b.length
        · rw [decide_eq_true e]; simp; omega
        · rw [decide_eq_false e]; exact beq_eq_false_iff_ne.2 (by omega)
      have z4 : (k : Int) < 4 := by have := HIK.out; omega
      have hkk : k < N := by have := HIK.out; omega
      have z2 : (i : Int) < (x.b.length : Int) := by omega
      have z3 : (0 : Int) ≤ (i : Int) := by omega
      have hi9 : IntKind.u64.wrap (i : Int) = (i : Int) := by rw [IntKind.wrap_u64]; omega
      have hs1 : IntKind.i64.wrap ((x.b.length : Int) - 1) = (x.b.length : Int) - 1 := by rw [IntKind.wrap_i64]; omega
      have HSM : Hid (sendM x k = ⟨x.m, i, lb, ym⟩) := by
        show _ = _
        unfold sendM
        rw [← HIK.out, hgd, hlb]
      have HTK : Hid ((sendP x).take (k + 1) = (sendP x).take k ++ [⟨x.m, i, lb, ym⟩]) := by
        show _ = _
        rw [sendP_take x k (by rw [HN.out]; have := HIK.out; omega), HSM.out]
      obtain ⟨w4, hw4⟩ : ∃ w4, wr.drew = w4 := ⟨_, rfl⟩
      have hb4 : Below wr.heap.size wr w4 := by rw [← hw4]; exact (Below.refl _ _).drew
      have hB4 : Below W0.heap.size W0 w4 := HB.out.trans (hb4.mono HB.out.size)
      obtain ⟨y1, y2, y3, y4, y5, y6, y7⟩ := HV.out w4 hB4
      have hlm4 : ListIs rRow 1 24 K w4 (.slice pm ym.length cm) ym := hlm.mono mRow (fun _ h => h) (kept_of v6 hb4)
      have HSall : Hid (∀ V, Below w4.heap.size w4 V → V.rangeAt w.heap.size 0 [.int .u64 (x.m.qb : Int), .int .u64 (x.m.qn : Int), .int .i64 x.m.at_, .int .i64 x.m.fr, .int .i64 x.m.tq] ∧ V.cell? ⟨w.heap.size, 5, none⟩ = some (.slice (some ⟨bb, o, none⟩) x.b.length c) ∧ V.cell? ⟨bb, o + i, none⟩ = some (.slice pm ym.length cm)) := fun V hV => by
        obtain ⟨t1, t2, _⟩ := HV.out V (hB4.trans (hV.mono hB4.size))
        refine ⟨t1, t2, ?_⟩
        rw [hV.cell (p := ⟨bb, o + i, none⟩) (y6 bb hKb), ← hw4]
        exact hcell
      have C18 : Hid (Calls Try.prog 25 #[.slice pm ym.length cm] w4 fun e w' => CpP rRow 1 24 ym w4 e w') := copyRows_any _ _ K w4 hlm4 y6
      have HJ4 : Hid (OwnR rMg 47 62 W0.heap.size w4 (.slice p k cu) ((sendP x).take k)) := HJ.out.keep mMg hb4
      have HB4 : Hid (Below W0.heap.size W0 w4) := hB4
      have HBL : Hid (bb < w4.heap.size ∧ bb < W0.heap.size) := ⟨y6 bb hKb, (HV.out W0 (Below.refl _ _)).2.2.2.2.2.1 bb hKb⟩
      have HI9 : Hid (i < 512) := by show _ < _; omega
      have HK4 : Hid (k ≤ 4) := by have := HIK.out; show _ ≤ _; omega
      clear v1 v4 v5 v6 v7 y1 y2 y3 y4 y5 y6 y7 hlm hlm4 hb4 hB4 hKb hlb hy hgd hcell HSM HJ HB
      go_wp2_with fail
      refine wp_region_held_drew (S := fun V => V.rangeAt w.heap.size 0 [.int .u64 (x.m.qb : Int), .int .u64 (x.m.qn : Int), .int .i64 x.m.at_, .int .i64 x.m.fr, .int .i64 x.m.tq] ∧ V.cell? ⟨w.heap.size, 5, none⟩ = some (.slice (some ⟨bb, o, none⟩) x.b.length c) ∧ V.cell? ⟨bb, o + i, none⟩ = some (.slice pm ym.length cm)) (by kernel_rfl) (by rw [hw4]; exact HSall.out w4 (Below.refl _ _)) (fun hHeld => ?_)
      refine wpAnyH_take (i := 0) (v := .slice p k cu) rfl (by kernel_rfl) (by kernel_rfl) (by kernel_rfl) (fun _ _ _ h => h) (.inl ⟨by rfl, fun W hW => by obtain ⟨_, h5, h6⟩ := hW; go_simp⟩) hHeld ?_
      simp only [Act.put, List.getElem_toArray, List.getElem_cons_zero, List.getElem_cons_succ, List.setIfInBounds_toArray, List.set_cons_zero, List.set_cons_succ]
      refine wpAnyH_take (i := 1) (v := .pointer (some ⟨w.heap.size, 0, none⟩)) rfl (by kernel_rfl) (by kernel_rfl) (by kernel_rfl) (fun _ _ _ h => h) (.inl ⟨by rfl, fun W hW => by obtain ⟨_, h5, h6⟩ := hW; go_simp⟩) hHeld ?_
      simp only [Act.put, List.getElem_toArray, List.getElem_cons_zero, List.getElem_cons_succ, List.setIfInBounds_toArray, List.set_cons_zero, List.set_cons_succ]
      refine wpAnyH_take (i := 2) (v := .agg #[.int .u64 (x.m.qb : Int), .int .u64 (x.m.qn : Int), .int .i64 x.m.at_, .int .i64 x.m.fr, .int .i64 x.m.tq]) rfl (by kernel_rfl) (by kernel_rfl) (by kernel_rfl) (fun _ _ _ h => h) (yieldsIf_load_mid (by rfl) 26 (.tmp 25) rfl w.heap.size 0 rfl [.int .u64 (x.m.qb : Int), .int .u64 (x.m.qn : Int), .int .i64 x.m.at_, .int .i64 x.m.fr, .int .i64 x.m.tq] _ (fun W hW => hW.1) Try.underlying26 rfl sz_Strm) hHeld ?_
      simp only [Act.put, List.getElem_toArray, List.getElem_cons_zero, List.getElem_cons_succ, List.setIfInBounds_toArray, List.set_cons_zero, List.set_cons_succ]
      refine wpAnyH_take (i := 3) (v := .int .i64 (i : Int)) rfl (by kernel_rfl) (by kernel_rfl) (by kernel_rfl) (fun _ _ _ h => h) (.inl ⟨by rfl, fun W hW => by obtain ⟨_, h5, h6⟩ := hW; go_simp⟩) hHeld ?_
      simp only [Act.put, List.getElem_toArray, List.getElem_cons_zero, List.getElem_cons_succ, List.setIfInBounds_toArray, List.set_cons_zero, List.set_cons_succ]
      refine wpAnyH_take (i := 4) (v := .int .u64 (i : Int)) rfl (by kernel_rfl) (by kernel_rfl) (by kernel_rfl) (fun _ _ _ h => h) (.inl ⟨by rfl, fun W hW => by obtain ⟨_, h5, h6⟩ := hW; go_simp⟩) hHeld ?_
      simp only [Act.put, List.getElem_toArray, List.getElem_cons_zero, List.getElem_cons_succ, List.setIfInBounds_toArray, List.set_cons_zero, List.set_cons_succ]
      refine wpAnyH_take (i := 5) (v := .int .i64 (i : Int)) rfl (by kernel_rfl) (by kernel_rfl) (by kernel_rfl) (fun _ _ _ h => h) (.inl ⟨by rfl, fun W hW => by obtain ⟨_, h5, h6⟩ := hW; go_simp⟩) hHeld ?_
      simp only [Act.put, List.getElem_toArray, List.getElem_cons_zero, List.getElem_cons_succ, List.setIfInBounds_toArray, List.set_cons_zero, List.set_cons_succ]
      refine wpAnyH_take (i := 6) (v := .pointer (some ⟨w.heap.size, 5, none⟩)) rfl (by kernel_rfl) (by kernel_rfl) (by kernel_rfl) (fun _ _ _ h => h) (.inl ⟨by rfl, fun W hW => by obtain ⟨_, h5, h6⟩ := hW; go_simp⟩) hHeld ?_
      simp only [Act.put, List.getElem_toArray, List.getElem_cons_zero, List.getElem_cons_succ, List.setIfInBounds_toArray, List.set_cons_zero, List.set_cons_succ]
      refine wpAnyH_take (i := 7) (v := .slice (some ⟨bb, o, none⟩) x.b.length c) rfl (by kernel_rfl) (by kernel_rfl) (by kernel_rfl) (fun _ _ _ h => h) (.inl ⟨by rfl, fun W hW => by obtain ⟨_, h5, h6⟩ := hW; go_simp⟩) hHeld ?_
      simp only [Act.put, List.getElem_toArray, List.getElem_cons_zero, List.getElem_cons_succ, List.setIfInBounds_toArray, List.set_cons_zero, List.set_cons_succ]
      refine wpAnyH_take (i := 8) (v := .int .i64 (x.b.length : Int)) rfl (by kernel_rfl) (by kernel_rfl) (by kernel_rfl) (fun _ _ _ h => h) (.inl ⟨by rfl, fun W hW => by obtain ⟨_, h5, h6⟩ := hW; go_simp⟩) hHeld ?_
      simp only [Act.put, List.getElem_toArray, List.getElem_cons_zero, List.getElem_cons_succ, List.setIfInBounds_toArray, List.set_cons_zero, List.set_cons_succ]
      refine wpAnyH_take (i := 9) (v := .int .i64 ((x.b.length : Int) - 1)) rfl (by kernel_rfl) (by kernel_rfl) (by kernel_rfl) (fun _ _ _ h => h) (.inl ⟨by rfl, fun W hW => by obtain ⟨_, h5, h6⟩ := hW; go_simp⟩) hHeld ?_
      simp only [Act.put, List.getElem_toArray, List.getElem_cons_zero, List.getElem_cons_succ, List.setIfInBounds_toArray, List.set_cons_zero, List.set_cons_succ]
      refine wpAnyH_take (i := 10) (v := .bool lb) rfl (by kernel_rfl) (by kernel_rfl) (by kernel_rfl) (fun _ _ _ h => h) (.inl ⟨by rfl, fun W hW => by obtain ⟨_, h5, h6⟩ := hW; go_simp⟩) hHeld ?_
      simp only [Act.put, List.getElem_toArray, List.getElem_cons_zero, List.getElem_cons_succ, List.setIfInBounds_toArray, List.set_cons_zero, List.set_cons_succ]
      refine wpAnyH_take (i := 11) (v := .pointer (some ⟨w.heap.size, 5, none⟩)) rfl (by kernel_rfl) (by kernel_rfl) (by kernel_rfl) (fun _ _ _ h => h) (.inl ⟨by rfl, fun W hW => by obtain ⟨_, h5, h6⟩ := hW; go_simp⟩) hHeld ?_
      simp only [Act.put, List.getElem_toArray, List.getElem_cons_zero, List.getElem_cons_succ, List.setIfInBounds_toArray, List.set_cons_zero, List.set_cons_succ]
      refine wpAnyH_take (i := 12) (v := .slice (some ⟨bb, o, none⟩) x.b.length c) rfl (by kernel_rfl) (by kernel_rfl) (by kernel_rfl) (fun _ _ _ h => h) (.inl ⟨by rfl, fun W hW => by obtain ⟨_, h5, h6⟩ := hW; go_simp⟩) hHeld ?_
      simp only [Act.put, List.getElem_toArray, List.getElem_cons_zero, List.getElem_cons_succ, List.setIfInBounds_toArray, List.set_cons_zero, List.set_cons_succ]
      refine wpAnyH_take (i := 13) (v := .int .i64 (i : Int)) rfl (by kernel_rfl) (by kernel_rfl) (by kernel_rfl) (fun _ _ _ h => h) (.inl ⟨by rfl, fun W hW => by obtain ⟨_, h5, h6⟩ := hW; go_simp⟩) hHeld ?_
      simp only [Act.put, List.getElem_toArray, List.getElem_cons_zero, List.getElem_cons_succ, List.setIfInBounds_toArray, List.set_cons_zero, List.set_cons_succ]
      refine wpAnyH_take (i := 14) (v := .pointer (some ⟨bb, o + i, none⟩)) rfl (by kernel_rfl) (by kernel_rfl) (by kernel_rfl) (fun _ _ _ h => h) (.inl ⟨by rfl, fun W hW => by obtain ⟨_, h5, h6⟩ := hW; go_simp⟩) hHeld ?_
      simp only [Act.put, List.getElem_toArray, List.getElem_cons_zero, List.getElem_cons_succ, List.setIfInBounds_toArray, List.set_cons_zero, List.set_cons_succ]
      refine wpAnyH_take (i := 15) (v := .slice pm ym.length cm) rfl (by kernel_rfl) (by kernel_rfl) (by kernel_rfl) (fun _ _ _ h => h) (.inl ⟨by rfl, fun W hW => by obtain ⟨_, h5, h6⟩ := hW; go_simp⟩) hHeld ?_
      simp only [Act.put, List.getElem_toArray, List.getElem_cons_zero, List.getElem_cons_succ, List.setIfInBounds_toArray, List.set_cons_zero, List.set_cons_succ]
      rw [hw4] at hHeld ⊢
      clear hw4
      refine wpAnyH_ready (rs := [16]) (by kernel_rfl) (by simp) ?_
      refine AllReadyH.cons rfl (fun K' hK => ?_) AllReadyH.nil
      rw [if_pos (by rfl)]
      go_simp
      go_at_call 25
      refine C18.out.mono ?_
      rintro e w5 ⟨p5, c5, rfl, hl5, hb5⟩
      obtain ⟨cl, hcl⟩ : ∃ cl, mgC 4 x.m i lb (.slice p5 ym.length c5) = cl := ⟨_, rfl⟩
      have hlen : cl.length = 47 := by rw [← hcl]; rfl
      have hone := mgC_one 4 x.m i lb p5 ym.length c5
      rw [hcl] at hone
      have hbd : (Instr.build 62 #[(0, .int .u8 4), (2, .agg #[.int .u64 (x.m.qb : Int), .int .u64 (x.m.qn : Int), .int .i64 x.m.at_, .int .i64 x.m.fr, .int .i64 x.m.tq]), (7, .int .u64 (i : Int)), (8, .bool lb), (9, .slice p5 ym.length c5)]).run Try.prog w5 = .ok (.agg cl.toArray) w5 := by rw [← hcl]; exact run_build w5 62 _ _ (batch_built x.m i lb (.slice p5 ym.length c5) p5 ym.length c5)
      have hB5 : Below W0.heap.size W0 w5 := HB4.out.trans (hb5.mono HB4.out.size)
      obtain ⟨j0, hj0, hj1, hj2, hj3⟩ := info65
      have hlt : ((sendP x).take k).length ≤ 4 := by rw [List.length_take]; have := HK4.out; omega
      have hs0 := HS0.out
      have hB0s := hB5.size
      have hJ5 := HJ4.out.keep mMg hb5
      obtain ⟨v', X2, e2, hJ2, hb2, hs2, ho2⟩ := OwnR.push mMg Try.underlying35 hj0 hj1 hj2 hj3 (by kernel_rfl) (by decide) hJ5 (by omega) (cs := cl) (x := (⟨x.m, i, lb, ym⟩ : Mg)) (K2 := From w4.heap.size w5) hlen (fun c hc => by have := List.all_eq_true.1 (by simpa using hone) c hc; exact this)
        (fun b hb => ⟨by have := hb.1; have := HB4.out.size; omega, hb.2, fun e => by have := (HJ4.out.block b e).2; have := hb.1; omega⟩) ⟨_, hcl.symm, ⟨HOK.out, by show i < _; have := HI9.out; omega⟩, hl5⟩ (by omega) (by unfold maxLen; omega)
      have hsl : ((sendP x).take k ++ [(⟨x.m, i, lb, ym⟩ : Mg)]).length = k + 1 := by
        rw [List.length_append, List.length_take]
        have : (sendP x).length = N := by unfold sendP; rw [List.length_map, List.length_range, HN.out]
        simp; omega
      obtain ⟨p', c', hv'⟩ := hJ2.slice
      rw [hsl] at hv'
      subst hv'
      have HJ2 : Hid (OwnR rMg 47 62 W0.heap.size X2 (.slice p' (k + 1) c') ((sendP x).take (k + 1))) := by rw [HTK.out]; exact hJ2
      have HB2 : Hid (Below W0.heap.size W0 X2) := hb2 _ _ hB5 (Nat.le_refl _)
      have hSA : ∀ V : World, V.heap[w.heap.size]? = w5.heap[w.heap.size]? → V.heap[bb]? = w5.heap[bb]? → (V.rangeAt w.heap.size 0 [.int .u64 (x.m.qb : Int), .int .u64 (x.m.qn : Int), .int .i64 x.m.at_, .int .i64 x.m.fr, .int .i64 x.m.tq] ∧ V.cell? ⟨w.heap.size, 5, none⟩ = some (.slice (some ⟨bb, o, none⟩) x.b.length c) ∧ V.cell? ⟨bb, o + i, none⟩ = some (.slice pm ym.length cm)) := fun V h1 h2 => by
        obtain ⟨t1, t2, t3⟩ := HSall.out w5 hb5
        exact ⟨fun j u hu => (World.cell?_of_block (a := ⟨w.heap.size, 0 + j, none⟩) h1).trans (t1 j u hu), (World.cell?_of_block (a := ⟨w.heap.size, 5, none⟩) h1).trans t2, (World.cell?_of_block (a := ⟨bb, o + i, none⟩) h2).trans t3⟩
      have hbb4 := HBL.out
      have s5 := hb5.size
      have hS5 := HSall.out w5 hb5
      have hS6 := hSA (w5.alloc (.cells cl.toArray 62)) (hao _ _ _ (by omega)) (hao _ _ _ (by omega))
      have hS7 := hSA X2 (ho2 _ (by omega) (fun e => by have := (hJ5.block _ e).1; omega)) (ho2 _ (by omega) (fun e => by have := (hJ5.block _ e).1; omega))
      have hX65 : cl.toArray.size = 47 := by simpa using hlen
      clear hsl hJ2 hb2 hs2 ho2 hJ5 hl5 hb5 hB5 hSA hlt hone hcl hbb4 s5 hB0s
      refine hK.out _ _ hS5 (fun hHeld => ?_)
      clear hK K'
      refine wpAnyH_ready (rs := [17]) (by kernel_rfl) (by simp) ?_
      refine AllReadyH.cons rfl (fun K' hK => ?_) AllReadyH.nil
      rw [if_pos (by rfl)]
      refine wp_build5 62 0 2 7 8 9 _ _ _ _ _ rfl (.int .u8 4) (.agg #[.int .u64 (x.m.qb : Int), .int .u64 (x.m.qn : Int), .int .i64 x.m.at_, .int .i64 x.m.fr, .int .i64 x.m.tq]) (.int .u64 (i : Int)) (.bool lb) (.slice p5 ym.length c5) rfl rfl rfl rfl rfl _ hbd ?_
      simp only [Act.put, List.getElem_toArray, List.getElem_cons_zero, List.getElem_cons_succ, List.setIfInBounds_toArray, List.set_cons_zero, List.set_cons_succ]
      refine hK.out _ _ hHeld (fun hHeld => ?_)
      clear hK K'
      refine wpAnyH_ready (rs := [18]) (by kernel_rfl) (by simp) ?_
      refine AllReadyH.cons rfl (fun K' hK => ?_) AllReadyH.nil
      rw [if_pos (by rfl)]
      refine wp_buildSlice 35 62 1 #[(0, .tmp 41)] rfl cl.toArray j0 (.agg zM) Try.underlying35 hj0 hj1 (by rw [hj2]; decide) (by rw [hj2]; decide) (by simp only [List.map_toArray, List.map_cons, List.map_nil]; exact msg_fill cl.toArray hX65 j0 hj2) ?_
      simp only [Act.put, List.getElem_toArray, List.getElem_cons_zero, List.getElem_cons_succ, List.setIfInBounds_toArray, List.set_cons_zero, List.set_cons_succ]
      refine hK.out _ _ hS6 (fun hHeld => ?_)
      clear hK K'
      refine wpAnyH_ready (rs := [19]) (by kernel_rfl) (by simp) ?_
      refine AllReadyH.cons rfl (fun K' hK => ?_) AllReadyH.nil
      rw [if_pos (by rfl)]
      refine wp_append_run (.tmp 24) (.tmp 42) 35 35 rfl (.slice p k cu) (.slice (some ⟨w5.heap.size, 0, none⟩) 1 1) rfl rfl _ _ e2 ?_
      simp only [Act.put, List.getElem_toArray, List.getElem_cons_zero, List.getElem_cons_succ, List.setIfInBounds_toArray, List.set_cons_zero, List.set_cons_succ]
      refine hK.out _ _ hS7 (fun hHeld => ?_)
      clear hK K'
      refine wpAnyH_ready (rs := [20]) (by kernel_rfl) (by simp) ?_
      refine AllReadyH.cons rfl (fun K' hK => ?_) AllReadyH.nil
      rw [if_pos (by rfl)]
      go_simp
      refine hK.out _ _ hS7 (fun hHeld => ?_)
      clear hK K'
      refine wpAnyH_done (by kernel_rfl) ?_ _
      clear hHeld hS5 hS6 hS7 hbd e2 hj0 hj1 hj2 hj3 hlen hX65
      go_wp2_with fail
      go_roundg g'
      case measure => omega
      case rel => exact ⟨p', c', i + 1, k + 1, by first | rfl | (simp; done), by go_num, by omega, by omega, by omega, by omega, by show _ = _; have := HIK.out; omega, HJ2, HB2⟩
    · have hkN : k = N := by have := HIK.out; omega
      have HF : Hid (OwnR rMg 47 62 w.heap.size wr (.slice p k cu) (sendP x) ∧ Below w.heap.size w wr) := ⟨by
        have := HJ.out.less (C := w.heap.size) (Nat.le_of_lt HS0.out)
        rwa [List.take_of_length_le (by unfold sendP; rw [List.length_map, List.length_range, HN.out]; omega)] at this, v4⟩
      have hik := HIK.out
      clear v1 v4 v5 v6 v7 HJ HB HIK
      by_cases hib : i < x.b.length
      · have z2 : (i : Int) < (x.b.length : Int) := by omega
        have z4 : ¬ (k : Int) < 4 := by omega
        clear hik hkN
        go_wp2_with fail
        go_ret2
        exact ⟨_, rfl, HF.out⟩
      · have z2 : ¬ (i : Int) < (x.b.length : Int) := by omega
        clear hik hkN
        go_wp2_with fail
        go_ret2
        exact ⟨_, rfl, HF.out⟩
end Go.Proofs.Ytcmiphgeakdonaa
