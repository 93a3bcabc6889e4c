/- All of a stream comes: the walk of StreamEnds. -/
import Derived.Test.YtnajchehdgagmaaBc
namespace Go.Proofs.Ytnajchehdgagmaa
open Go.Shelf Go.RowKit Go.Lib Go.Sort
set_option linter.unusedVariables false
set_option linter.unusedSimpArgs false
attribute [local go_sem ↓] Go.wp_at_zero Go.wp_at_succ
set_option maxRecDepth 100000 in
set_option maxHeartbeats 8000000 in
theorem ends_any (s : Strm) (v : Value) (rows : List (List Val)) (K : Nat → Prop) (w : World) (hs : okS s) (h : ListIs rRow 1 24 K w v rows) (hK : ∀ b, K b → b < w.heap.size) :
    Calls Try.prog 4 #[.agg #[.int .u64 (s.qb : Int), .int .u64 (s.qn : Int), .int .i64 s.at_, .int .i64 s.fr, .int .i64 s.tq], v] w fun e w' => e = .returned (.bool true) ∧ Below w.heap.size w w' := by
  obtain ⟨q, c, rfl, hby, -⟩ := id h
  have hr63 : rows.length ≤ 5864062014806 := by omega
  obtain ⟨W0, hW0⟩ : ∃ W0, w.alloc (.cells #[.int .u64 (s.qb : Int), .int .u64 (s.qn : Int), .int .i64 s.at_, .int .i64 s.fr, .int .i64 s.tq] 26) = W0 := ⟨_, rfl⟩
  have hb0 : Below w.heap.size w W0 := by rw [← hW0]; exact (Below.refl _ _).alloc (Nat.le_refl _) _
  have hg0 : W0.heap[w.heap.size]? = some (.cells #[.int .u64 (s.qb : Int), .int .u64 (s.qn : Int), .int .i64 s.at_, .int .i64 s.fr, .int .i64 s.tq] 26 (0, 0)) := by rw [← hW0]; exact heap_alloc_new w _
  have hs0 : w.heap.size < W0.heap.size := (Array.getElem?_eq_some_iff.1 hg0).1
  have HL0 : Hid (∀ V, Below w.heap.size w V → ListIs rRow 1 24 K V (.slice q rows.length c) rows ∧ (∀ b, K b → b < V.heap.size)) := fun V hb => ⟨h.mono mRow (fun _ h => h) (kept_of hK hb), fun b hb' => Nat.lt_of_lt_of_le (hK b hb') hb.size⟩
  have HV : Hid (∀ V, Below W0.heap.size W0 V → V.heap[w.heap.size]? = some (.cells #[.int .u64 (s.qb : Int), .int .u64 (s.qn : Int), .int .i64 s.at_, .int .i64 s.fr, .int .i64 s.tq] 26 (0, 0)) ∧ V.rangeAt w.heap.size 0 [.int .u64 (s.qb : Int), .int .u64 (s.qn : Int), .int .i64 s.at_, .int .i64 s.fr, .int .i64 s.tq] ∧ Below w.heap.size w V) := fun V hb => by
    have hbw := hb0.trans (hb.mono hb0.size)
    exact ⟨(hb.block _ hs0).trans hg0, fun j u hu => by rw [Nat.zero_add]; exact cell_of_row ((hb.block _ hs0).trans hg0) (by simpa using hu), hbw⟩
  have CL := hid (lives_any W0)
  have HS : Hid (okS s) := hs
  have HS0 : Hid (w.heap.size < W0.heap.size) := hs0
  clear h hK hb0 hg0 hs0 hs hby
  go_enter Try.func4, Try.ntmps4
  go_wp2_with fail
  refine CL.out.mono ?_
  rintro e w1 ⟨rfl, hb1⟩
  obtain ⟨v0, v1, v2⟩ := HV.out w1 hb1
  obtain ⟨l1, l2⟩ := HL0.out w1 v2
  have HR1 : Hid (w1.rangeAt w.heap.size 0 [.int .u64 (s.qb : Int), .int .u64 (s.qn : Int), .int .i64 s.at_, .int .i64 s.fr, .int .i64 s.tq]) := v1
  have HB1 : Hid (Below W0.heap.size W0 w1) := hb1
  have CC := hid (cut_any s _ rows K w1 HS.out l1 l2)
  clear CL v0 v1 v2 l1 l2 hb1 hW0
  go_wp2_with (refine wpList_load_mid rfl 26 _ rfl w.heap.size 0 rfl _ _ HR1.out Try.underlying26 rfl sz_Strm ?_)
  refine CC.out.mono ?_
  rintro e w2 ⟨cs2, rfl, hr2, hb2⟩
  have hB2 : Below W0.heap.size W0 w2 := HB1.out.trans (hb2.mono HB1.out.size)
  by_cases hbig : 4096 < rows.length
  · rw [if_pos hbig] at hr2 ⊢
    obtain ⟨q2, c2, rfl, _⟩ := out_cells hr2
    have z : (4096 : Int) < (rows.length : Int) := by omega
    have HB2 : Hid (Below w.heap.size w w2) := (HV.out w2 hB2).2.2
    clear CC hr2 hb2 hB2
    obtain ⟨WA, hWA, hth, WS, hWS, hrs, hss, hbs, hrl⟩ := box_new w2 33 #[.int .u64 0, .int .u64 0, .int .i64 0, .int .i64 0, .int .i64 0, .slice none 0 0, .int .u64 0] [.int .u64 ((0 : Nat) : Int), .int .u64 ((0 : Nat) : Int), .int .i64 0, .int .i64 0, .int .i64 0, .slice q2 0 c2, .int .u64 ((0 : Nat) : Int)] rfl
    have HTH : Hid (WA.there w2.heap.size 0 7) := hth
    have HWS : Hid (WA.setCells w2.heap.size 0 (#[.int .u64 ((0 : Nat) : Int), .int .u64 ((0 : Nat) : Int), .int .i64 0, .int .i64 0, .int .i64 0, .slice q2 0 c2, .int .u64 ((0 : Nat) : Int)] : Array Value).toList = WS) := hWS
    have HON : Hid ((#[.int .u64 ((0 : Nat) : Int), .int .u64 ((0 : Nat) : Int), .int .i64 0, .int .i64 0, .int .i64 0, .slice q2 0 c2, .int .u64 ((0 : Nat) : Int)] : Array Value).all (·.oneCell') = true) := by show _ = _; simp [Value.oneCell']
    have HBS : Hid (Below w.heap.size w WS) := HB2.out.trans (hbs.mono HB2.out.size)
    clear hth hWS hrs hss hbs hrl
    go_wp2_with (refine wpList_store_mid rfl 33 _ _ rfl w2.heap.size 0 #[.int .u64 ((0 : Nat) : Int), .int .u64 ((0 : Nat) : Int), .int .i64 0, .int .i64 0, .int .i64 0, .slice q2 0 c2, .int .u64 ((0 : Nat) : Int)] rfl rfl HTH.out sz_Out HON.out ?_; rw [HWS.out])
    go_ret
    exact ⟨by first | rfl | simp [z], HBS.out⟩
  · rw [if_neg hbig] at hr2 ⊢
    obtain ⟨q2, c2, rfl, _, hl2, hcap2, hby2⟩ := out_cells hr2
    obtain ⟨WA, hWA, hth, WS, hWS, hrs, hss, hbs, hrl⟩ := box_new w2 33 #[.int .u64 0, .int .u64 0, .int .i64 0, .int .i64 0, .int .i64 0, .slice none 0 0, .int .u64 0] [.int .u64 (s.qb : Int), .int .u64 (s.qn : Int), .int .i64 s.at_, .int .i64 s.fr, .int .i64 s.tq, .slice q2 (chunkP rows).length c2, .int .u64 ((0 : Nat) : Int)] rfl
    have hBS : Below W0.heap.size W0 WS := hB2.trans (hbs.mono hB2.size)
    obtain ⟨WB, hWB, hth7, WT, hWT, hrs7, hss7, hbs7, hrl7⟩ := box_new WS 39 #[.int .u64 0, .int .u64 0, .int .i64 0, .int .i64 0, .int .i64 0, .int .u64 0, .slice none 0 0, .slice none 0 0, .bool false] [.int .u64 (s.qb : Int), .int .u64 (s.qn : Int), .int .i64 s.at_, .int .i64 s.fr, .int .i64 s.tq, .int .u64 0, .slice none 0 0, .slice none 0 0, .bool false] rfl
    have hnl := chunkP_num rows
    have hpl := chunkP_pos rows
    have h8l := chunkP_le rows
    have hfl := chunkP_flat rows
    have hoe := outE_chunk s rows (by omega)
    obtain ⟨bs, hbsE⟩ : ∃ bs, chunkP rows = bs := ⟨_, rfl⟩
    rw [hbsE] at hnl hpl h8l hfl hoe hr2 hl2
    have hgS : WS.heap[w2.heap.size]? = some (.cells #[.int .u64 (s.qb : Int), .int .u64 (s.qn : Int), .int .i64 s.at_, .int .i64 s.fr, .int .i64 s.tq, .slice q2 (chunkP rows).length c2, .int .u64 ((0 : Nat) : Int)] 33 (0, 0)) := by rw [← hWS]; exact box_full WA w2.heap.size #[.int .u64 0, .int .u64 0, .int .i64 0, .int .i64 0, .int .i64 0, .slice none 0 0, .int .u64 0] 33 (by rw [← hWA]; exact heap_alloc_new w2 _) [.int .u64 (s.qb : Int), .int .u64 (s.qn : Int), .int .i64 s.at_, .int .i64 s.fr, .int .i64 s.tq, .slice q2 (chunkP rows).length c2, .int .u64 ((0 : Nat) : Int)] rfl
    have hgT : WT.heap[WS.heap.size]? = some (.cells #[.int .u64 (s.qb : Int), .int .u64 (s.qn : Int), .int .i64 s.at_, .int .i64 s.fr, .int .i64 s.tq, .int .u64 0, .slice none 0 0, .slice none 0 0, .bool false] 39 (0, 0)) := by rw [← hWT]; exact box_full WB WS.heap.size #[.int .u64 0, .int .u64 0, .int .i64 0, .int .i64 0, .int .i64 0, .int .u64 0, .slice none 0 0, .slice none 0 0, .bool false] 39 (by rw [← hWB]; exact heap_alloc_new WS _) [.int .u64 (s.qb : Int), .int .u64 (s.qn : Int), .int .i64 s.at_, .int .i64 s.fr, .int .i64 s.tq, .int .u64 0, .slice none 0 0, .slice none 0 0, .bool false] rfl
    have hsz1 := HB1.out.size
    have hsz2 := hb2.size
    have hsz0 := HS0.out
    have HE0 : Hid (EndI s bs w w2.heap.size WS.heap.size 0 0 WT) := by
      have hbT : Below w2.heap.size w2 WT := hbs.trans (hbs7.mono hbs.size)
      have hBT : Below W0.heap.size W0 WT := hB2.trans (hbT.mono hB2.size)
      refine ⟨⟨q2, c2, From w1.heap.size w2, ?_, fun b hb => ⟨by have := hb.2; omega, by have := hb.2; omega, by have := hb.2; omega⟩, mOut _ _ _ _ _ _ (fun _ h => h) (kept_of From.lt hbT) hr2⟩, ⟨none, 0, none, 0, fun _ => False, ?_, fun b hb => hb.elim, ?_⟩, (HV.out WT hBT).1, (HV.out WT hBT).2.2, by omega⟩
      · rw [← hbsE]; exact (hbs7.block _ (by omega)).trans hgS
      · have e : decide (0 = bs.length) = false := decide_eq_false (by omega)
        rw [e]; simpa using hgT
      · refine ⟨_, _, rfl, ⟨HS.out, by show (0:Nat) < _; omega⟩, ⟨none, 0, rfl, ⟨by simp [inAt], by simp [inAt]⟩, fun h => by simp [inAt] at h⟩, ⟨none, 0, rfl, ⟨by simp [inAt], by simp [inAt]⟩, fun h => by simp [inAt] at h⟩⟩
    have HTH : Hid (WA.there w2.heap.size 0 7) := hth
    have HWS : Hid (WA.setCells w2.heap.size 0 (#[.int .u64 (s.qb : Int), .int .u64 (s.qn : Int), .int .i64 s.at_, .int .i64 s.fr, .int .i64 s.tq, .slice q2 (chunkP rows).length c2, .int .u64 ((0 : Nat) : Int)] : Array Value).toList = WS) := hWS
    have HON : Hid ((#[.int .u64 (s.qb : Int), .int .u64 (s.qn : Int), .int .i64 s.at_, .int .i64 s.fr, .int .i64 s.tq, .slice q2 (chunkP rows).length c2, .int .u64 ((0 : Nat) : Int)] : Array Value).all (·.oneCell') = true) := by show _ = _; simp [Value.oneCell']
    have HTH7 : Hid (WB.there WS.heap.size 0 9) := hth7
    have HWT : Hid (WB.setCells WS.heap.size 0 (#[.int .u64 (s.qb : Int), .int .u64 (s.qn : Int), .int .i64 s.at_, .int .i64 s.fr, .int .i64 s.tq, .int .u64 0, .slice none 0 0, .slice none 0 0, .bool false] : Array Value).toList = WT) := hWT
    have HON7 : Hid ((#[.int .u64 (s.qb : Int), .int .u64 (s.qn : Int), .int .i64 s.at_, .int .i64 s.fr, .int .i64 s.tq, .int .u64 0, .slice none 0 0, .slice none 0 0, .bool false] : Array Value).all (·.oneCell') = true) := by show _ = _; simp [Value.oneCell']
    have HRS : Hid (WS.rangeAt w.heap.size 0 [.int .u64 (s.qb : Int), .int .u64 (s.qn : Int), .int .i64 s.at_, .int .i64 s.fr, .int .i64 s.tq]) := (HV.out WS hBS).2.1
    have HB8 : Hid (∀ c ∈ bs, c.length ≤ 8) := h8l
    have HFL : Hid (bs.flatten = rows) := hfl
    have HOE : Hid (outE ⟨s, bs, 0⟩ = 0) := hoe
    obtain ⟨N, hN⟩ : ∃ N, bs.length = N := ⟨_, rfl⟩
    have HN : Hid (bs.length = N) := hN
    have hN9 : N ≤ 512 ∧ 0 < N := by omega
    have hr4 : rows.length ≤ 4096 := by omega
    obtain ⟨T5, hT5⟩ : ∃ T5, T5 = w2.heap.size := ⟨_, rfl⟩
    clear CC hr2 hb2 hB2 hl2 hth hWS hrs hss hbs hrl hth7 hWT hrs7 hss7 hbs7 hrl7 hcap2 hby2 hbig hnl hpl h8l hfl hoe hBS hgS hgT hsz1 hsz2 hsz0 hbsE hN
    go_wp2_with (first | (refine wpList_store_mid rfl 33 _ _ rfl w2.heap.size 0 #[.int .u64 (s.qb : Int), .int .u64 (s.qn : Int), .int .i64 s.at_, .int .i64 s.fr, .int .i64 s.tq, .slice q2 (chunkP rows).length c2, .int .u64 ((0 : Nat) : Int)] rfl rfl HTH.out sz_Out HON.out ?_; rw [HWS.out]) | (refine wpList_load_mid rfl 26 _ rfl w.heap.size 0 rfl _ _ HRS.out Try.underlying26 rfl sz_Strm ?_) | (refine wpList_store_mid rfl 39 _ _ rfl WS.heap.size 0 #[.int .u64 (s.qb : Int), .int .u64 (s.qn : Int), .int .i64 s.at_, .int .i64 s.fr, .int .i64 s.tq, .int .u64 0, .slice none 0 0, .slice none 0 0, .bool false] rfl rfl HTH7.out sz_In HON7.out ?_; rw [HWT.out]))
    clear HTH HWS HON HTH7 HWT HON7 HRS hWA hWB hT5
    go_loopg [8] N (fun gf s8 wx => ∃ (k a : Nat), s8 = .int .i64 k ∧ k ≤ N ∧ N ≤ k + gf ∧ k ≤ a ∧ a ≤ N ∧ Hid (EndI s bs w w2.heap.size WS.heap.size a a wx))
    case atStart => exact ⟨0, 0, rfl, by omega, by omega, by omega, by omega, HE0⟩
    case round =>
      clear HE0
      obtain ⟨k, a, rfl, hk1, hgf, hka, haN, HI⟩ := hrel
      obtain ⟨V0, hV0⟩ : ∃ V0, V0 = wr := ⟨_, rfl⟩
      subst hV0
      obtain ⟨qo, co, Ko, go, hKo, hro⟩ := HI.out.o
      obtain ⟨qi, ci, qr, cr, Ki, gi, hKi, hri⟩ := HI.out.i
      have hst := HI.out.st
      have f5 : V0.cell? ⟨w2.heap.size, 5, none⟩ = some (.slice qo N co) := by rw [← HN.out]; exact cell_of_row (k := 5) go rfl
      by_cases haE : a < N
      · obtain ⟨g', rfl⟩ : ∃ g', gk = g' + 1 := ⟨gk - 1, by omega⟩
        have ed : decide (a = bs.length) = false := decide_eq_false (by rw [HN.out]; omega)
        have f8 : V0.cell? ⟨WS.heap.size, 8, none⟩ = some (.bool false) := by rw [← ed]; exact cell_of_row (k := 8) gi rfl
        have z1 : (k : Int) < (N : Int) := by omega
        have hOa : outE ⟨s, bs, a⟩ = 0 := outE_ack ⟨s, bs, 0⟩ a HOE.out (by show a ≤ bs.length; rw [HN.out]; exact haN)
        have CS := hid (send_any _ ⟨s, bs, a⟩ Ko V0 hro hOa (fun b hb => (hKo b hb).1))
        have HRO : Hid (V0.rangeAt w2.heap.size 0 [.int .u64 (s.qb : Int), .int .u64 (s.qn : Int), .int .i64 s.at_, .int .i64 s.fr, .int .i64 s.tq, .slice qo bs.length co, .int .u64 (a : Int)]) := fun j u hu => by rw [Nat.zero_add]; exact cell_of_row go (by simpa using hu)
        clear go hKo hro gi hKi hri hst ed hOa
        go_wp2_with (refine wpList_load_mid rfl 33 _ rfl w2.heap.size 0 rfl _ _ HRO.out Try.underlying33 rfl sz_Out ?_)
        refine CS.out.mono ?_
        rintro e w4 ⟨u, rfl, hO4, hb4⟩
        have hLS := open_lenS ⟨s, bs, a⟩
        have hNN : sendN ⟨s, bs, a⟩ = min bs.length (a + 4) - a := rfl
        rw [HN.out] at hNN
        obtain ⟨pl, cl4, rfl, hl4⟩ := hO4.list mMg (bytes := 640) (by rw [hLS, hNN]; omega)
        obtain ⟨L, hL⟩ : ∃ L, (sendP ⟨s, bs, a⟩).length = L := ⟨_, rfl⟩
        have HL : Hid ((sendP ⟨s, bs, a⟩).length = L) := hL
        rw [hL] at hl4
        rw [show (Value.slice pl (sendP ⟨s, bs, a⟩).length cl4) = .slice pl L cl4 by rw [hL]]
        have hLv : a + L ≤ N ∧ 0 < L ∧ L ≤ 4 := by omega
        have HI4 : Hid (EndI s bs w w2.heap.size WS.heap.size a a w4) := HI.out.later hb4
        have HL4 : Hid (ListIs rMg 47 640 (From V0.heap.size w4) w4 (.slice pl L cl4) (sendP ⟨s, bs, a⟩)) := hl4
        have HZ4 : Hid (WS.heap.size < V0.heap.size) := HI.out.sz.2.2
        clear CS hO4 hb4 hLS hNN hl4 hL HRO f5 f8 HI
        go_wp2_with fail
        go_loopg [49] L (fun gf s49 wx => ∃ (i : Nat), s49 = .int .i64 i ∧ i ≤ L ∧ L ≤ i + gf ∧ Hid (EndI s bs w w2.heap.size WS.heap.size a (a + i) wx) ∧ Hid (ListIs rMg 47 640 (From V0.heap.size w4) wx (.slice pl L cl4) (sendP ⟨s, bs, a⟩)) ∧ Hid (w4.heap.size ≤ wx.heap.size))
        case atStart => exact ⟨0, rfl, by omega, by omega, HI4, HL4, Nat.le_refl _⟩
        case round =>
          clear HI4 HL4
          obtain ⟨i, rfl, hi1, hgi, HI, HLM, HZW⟩ := hrel
          by_cases hi : i < L
          · obtain ⟨g'', rfl⟩ : ∃ g'', gk = g'' + 1 := ⟨gk - 1, by omega⟩
            obtain ⟨J, hJ⟩ : ∃ J, a + i = J := ⟨_, rfl⟩
            have hJN : J < bs.length := by rw [HN.out]; omega
            have hb9 : bs.length ≤ 512 := by rw [HN.out]; omega
            obtain ⟨g, o, cl, rfl, hKg, hrg, hlen, hmg⟩ := msg_at HLM.out i (by rw [HL.out]; exact hi)
            rw [sendP_at, hJ] at hmg
            obtain ⟨qm, cm, ecl, _⟩ := mg_cells hmg
            obtain ⟨WA, hWA, hth, WS2, hWS2, hrs, hss, hbs2, hrl⟩ := box_new wr 65 zM cl (by rw [hlen]; rfl)
            have hI2 := HI.out.later hbs2
            rw [hJ] at hI2
            obtain ⟨qi, ci, qr, cr, Ki, gi, hKi, hri⟩ := hI2.i
            have hsz := HI.out.sz
            have hzw := HZW.out
            have hz4 := HZ4.out
            have hs2 := hbs2.size
            have hLM2 : ListIs rMg 47 640 (From V0.heap.size w4) WS2 (.slice (some ⟨g, o, none⟩) L cl4) (sendP ⟨s, bs, a⟩) := HLM.out.later mMg (fun b hb => Nat.lt_of_lt_of_le hb.2 hzw) hbs2
            have hmg2 : rMg (From V0.heap.size w4) WS2 cl (mgAt s bs J) := mMg _ _ _ _ _ _ (fun _ h => h) (kept_of (fun b hb => Nat.lt_of_lt_of_le hb.2 hzw) hbs2) hmg
            have CT0 := take_cells [.int .u64 (s.qb : Int), .int .u64 (s.qn : Int), .int .i64 s.at_, .int .i64 s.fr, .int .i64 s.tq, .int .u64 (J : Int), .slice qi 0 ci, .slice qr (bs.take J).flatten.length cr, .bool (decide (J = bs.length))] cl (inAt s bs J) (mgAt s bs J) (fun b => b < WS2.heap.size) WS2 (mIn _ _ _ _ _ _ (fun b hb => (hKi b hb).1) (Kept.refl _ _) hri) (inAt_ok s bs J HB8.out (Nat.le_of_lt hJN) hb9 (by omega)) (mMg _ _ _ _ _ _ (fun b hb => by have := hb.2; show b < _; omega) (Kept.refl _ _) hmg2) rfl (mgAt_le s bs J HB8.out) (fun b hb => hb)
            rw [take_at s bs J hJN hb9, ref_at s bs J hJN hb9] at CT0
            obtain ⟨R, hR⟩ : ∃ R, (bs.take J).flatten.length = R := ⟨_, rfl⟩
            obtain ⟨D, hD⟩ : ∃ D, decide (J = bs.length) = D := ⟨_, rfl⟩
            have CT : Hid (Calls Try.prog 10 #[.agg #[.int .u64 (s.qb : Int), .int .u64 (s.qn : Int), .int .i64 s.at_, .int .i64 s.fr, .int .i64 s.tq, .int .u64 (J : Int), .slice qi 0 ci, .slice qr R cr, .bool D], .agg cl.toArray] WS2 fun e w6 => ∃ q6 c6 q7 c7 R1 D1, e = .returned (.tuple #[.agg #[.int .u64 (s.qb : Int), .int .u64 (s.qn : Int), .int .i64 s.at_, .int .i64 s.fr, .int .i64 s.tq, .int .u64 ((J + 1 : Nat) : Int), .slice q6 0 c6, .slice q7 R1 c7, .bool D1], .int .i64 0]) ∧ Hid (w6.there WS.heap.size 0 9) ∧ ∃ X, Hid (w6.setCells WS.heap.size 0 (#[.int .u64 (s.qb : Int), .int .u64 (s.qn : Int), .int .i64 s.at_, .int .i64 s.fr, .int .i64 s.tq, .int .u64 ((J + 1 : Nat) : Int), .slice q6 0 c6, .slice q7 R1 c7, .bool D1] : Array Value).toList = X) ∧ Hid (EndI s bs w w2.heap.size WS.heap.size a (J + 1) X) ∧ Hid (ListIs rMg 47 640 (From V0.heap.size w4) X (.slice (some ⟨g, o, none⟩) L cl4) (sendP ⟨s, bs, a⟩)) ∧ Hid (w4.heap.size ≤ X.heap.size)) := by
              rw [← hR, ← hD]
              refine CT0.mono ?_
              rintro e w6 ⟨q6, c6, q7, c7, rfl, hr6, hb6⟩
              have hr6' : rIn (From WS2.heap.size w6) w6 [.int .u64 (s.qb : Int), .int .u64 (s.qn : Int), .int .i64 s.at_, .int .i64 s.fr, .int .i64 s.tq, .int .u64 ((J + 1 : Nat) : Int), .slice q6 0 c6, .slice q7 (bs.take (J + 1)).flatten.length c7, .bool (decide (J + 1 = bs.length))] (inAt s bs (J + 1)) := hr6
              obtain ⟨hth6, X, hX, hE, hk⟩ := hI2.take hb6 hr6'
              have hsX := hE.sz
              refine ⟨q6, c6, q7, c7, _, _, rfl, hth6, X, hX, hE, ?_, ?_⟩
              · have hLM6 := hLM2.later mMg (fun b hb => by have := hb.2; omega) hb6
                exact hLM6.mono mMg (fun _ h => h) (hk.less fun b hb => by have := hb.1; show b ≠ _; omega)
              · have h1 := hb6.size
                have h2 := hk.size
                show _ ≤ _
                omega
            have HTH : Hid (WA.there wr.heap.size 0 cl.toArray.size) := hth
            have HWS2 : Hid (WA.setCells wr.heap.size 0 cl = WS2) := hWS2
            have HONE : Hid (cl.toArray.all (·.oneCell') = true) := by rw [ecl]; exact mgC_one 4 _ _ _ _ _ _
            have SZM : Hid ((Try.prog.info? 65).map (·.size) = some cl.length) := by show _ = _; rw [hlen]; exact sz_Msg
            have SZA : Hid ((Try.prog.info? 65).map (·.size) = some cl.toArray.size) := by show _ = _; rw [List.size_toArray, hlen]; exact sz_Msg
            have HRG : Hid (wr.rangeAt g (o + i * 47) cl) := hrg
            have HRB : Hid (WS2.rangeAt wr.heap.size 0 cl) := hrs
            have HRI : Hid (WS2.rangeAt WS.heap.size 0 [.int .u64 (s.qb : Int), .int .u64 (s.qn : Int), .int .i64 s.at_, .int .i64 s.fr, .int .i64 s.tq, .int .u64 (J : Int), .slice qi 0 ci, .slice qr R cr, .bool D]) := by
              rw [← hR, ← hD]
              exact fun j u hu => by rw [Nat.zero_add]; exact cell_of_row gi (by simpa using hu)
            have HWA : Hid (wr.alloc (.cells zM 65) = WA) := hWA
            have z0 : (0 : Int) ≤ (i : Int) := by omega
            have zi : (i : Int) < (L : Int) := by omega
            have HJ : Hid (a + (i + 1) = J + 1) := by show _ = _; omega
            clear HI HLM HZW hKg hrg hlen hmg ecl hth hWS2 hrs hss hbs2 hrl hI2 gi hKi hri hsz hzw hz4 hs2 hLM2 hmg2 CT0 hJN hb9 hJ hWA hR hD
            go_wp2_with (first | (refine wpList_load_mid rfl 65 _ rfl g (o + i * 47) rfl _ _ HRG.out Try.underlying65 rfl SZM.out ?_) | (refine wpList_alloc_z rfl 65 rfl zM (zeroM _) ?_; rw [HWA.out]) | (refine wpList_store_mid rfl 65 _ _ rfl wr.heap.size 0 cl.toArray rfl rfl HTH.out SZA.out HONE.out ?_; rw [show WA.setCells wr.heap.size 0 cl.toArray.toList = WS2 from HWS2.out]) | (refine wpList_load_mid rfl 39 _ rfl WS.heap.size 0 rfl _ _ HRI.out Try.underlying39 rfl sz_In ?_) | (refine wpList_load_mid rfl 65 _ rfl wr.heap.size 0 rfl _ _ HRB.out Try.underlying65 rfl SZM.out ?_))
            refine CT.out.mono ?_
            rintro e w6 ⟨q6, c6, q7, c7, R1, D1, rfl, HT6, X, HX6, HE6, HLX, HZX⟩
            have HO6 : Hid ((#[.int .u64 (s.qb : Int), .int .u64 (s.qn : Int), .int .i64 s.at_, .int .i64 s.fr, .int .i64 s.tq, .int .u64 ((J + 1 : Nat) : Int), .slice q6 0 c6, .slice q7 R1 c7, .bool D1] : Array Value).all (·.oneCell') = true) := by show _ = _; simp [Value.oneCell']
            rw [← HJ.out] at HE6
            clear CT HTH HWS2 HONE SZM SZA HRG HRB HRI HWA
            go_wp2_with (refine wpList_store_mid rfl 39 _ _ rfl WS.heap.size 0 #[.int .u64 (s.qb : Int), .int .u64 (s.qn : Int), .int .i64 s.at_, .int .i64 s.fr, .int .i64 s.tq, .int .u64 ((J + 1 : Nat) : Int), .slice q6 0 c6, .slice q7 R1 c7, .bool D1] rfl rfl HT6.out sz_In HO6.out ?_; rw [HX6.out])
            go_roundg g''
            case measure => omega
            case rel => exact ⟨i + 1, by go_num, by omega, by omega, HE6, HLX, HZX⟩
          · have hiL : i = L := by omega
            subst hiL
            have zi : ¬ (i : Int) < (i : Int) := by omega
            have hEL := HI.out
            obtain ⟨qo, co, Ko, go, hKo, hro⟩ := hEL.o
            obtain ⟨qi, ci, qr, cr, Ki, gi, hKi, hri⟩ := hEL.i
            have f5 : wr.cell? ⟨WS.heap.size, 5, none⟩ = some (.int .u64 ((a : Int) + (i : Int))) := by
              have := cell_of_row (k := 5) (v := .int .u64 ((a + i : Nat) : Int)) gi rfl
              rw [this]; push_cast; rfl
            have HRO : Hid (wr.rangeAt w2.heap.size 0 [.int .u64 (s.qb : Int), .int .u64 (s.qn : Int), .int .i64 s.at_, .int .i64 s.fr, .int .i64 s.tq, .slice qo bs.length co, .int .u64 (a : Int)]) := fun j u hu => by rw [Nat.zero_add]; exact cell_of_row go (by simpa using hu)
            have HRS2 : Hid (wr.rangeAt w.heap.size 0 [.int .u64 (s.qb : Int), .int .u64 (s.qn : Int), .int .i64 s.at_, .int .i64 s.fr, .int .i64 s.tq]) := fun j u hu => by rw [Nat.zero_add]; exact cell_of_row hEL.st (by simpa using hu)
            have CA0 := acked_any _ ⟨s, bs, a⟩ s (a + i) Ko wr hro HS.out (by omega) (fun b hb => (hKo b hb).1)
            have hak : ackP ⟨s, bs, a⟩ s (a + i) = ⟨s, bs, a + i⟩ := by
              unfold ackP; simp only []; rw [same_refl, decide_eq_true (show a + i ≤ bs.length by rw [HN.out]; omega)]; rfl
            rw [hak] at CA0
            have CA : Hid (Calls Try.prog 12 #[.agg #[.int .u64 (s.qb : Int), .int .u64 (s.qn : Int), .int .i64 s.at_, .int .i64 s.fr, .int .i64 s.tq, .slice qo bs.length co, .int .u64 (a : Int)], .agg #[.int .u64 (s.qb : Int), .int .u64 (s.qn : Int), .int .i64 s.at_, .int .i64 s.fr, .int .i64 s.tq], .int .u64 ((a : Int) + (i : Int))] wr fun e w6 => ∃ q6 c6, e = .returned (.agg #[.int .u64 (s.qb : Int), .int .u64 (s.qn : Int), .int .i64 s.at_, .int .i64 s.fr, .int .i64 s.tq, .slice q6 bs.length c6, .int .u64 ((a + i : Nat) : Int)]) ∧ Hid (w6.there w2.heap.size 0 7) ∧ ∃ X, Hid (w6.setCells w2.heap.size 0 (#[.int .u64 (s.qb : Int), .int .u64 (s.qn : Int), .int .i64 s.at_, .int .i64 s.fr, .int .i64 s.tq, .slice q6 bs.length c6, .int .u64 ((a + i : Nat) : Int)] : Array Value).toList = X) ∧ Hid (EndI s bs w w2.heap.size WS.heap.size (a + i) (a + i) X)) := by
              have CA1 := CA0
              rw [show ((a + i : Nat) : Int) = (a : Int) + (i : Int) by push_cast; rfl] at CA1
              refine Calls.mono CA1 ?_
              rintro e w6 ⟨cs6, rfl, hr6, hb6⟩
              obtain ⟨q6, c6, rfl, _⟩ := out_cells hr6
              obtain ⟨hth6, X, hX, hE⟩ := hEL.ack hb6 hr6
              exact ⟨q6, c6, rfl, hth6, X, hX, hE⟩
            clear HI HLM HZW hEL go hKo hro gi hKi hri CA0 hak
            go_wp2_with (first | (refine wpList_load_mid rfl 33 _ rfl w2.heap.size 0 rfl _ _ HRO.out Try.underlying33 rfl sz_Out ?_) | (refine wpList_load_mid rfl 26 _ rfl w.heap.size 0 rfl _ _ HRS2.out Try.underlying26 rfl sz_Strm ?_))
            refine CA.out.mono ?_
            rintro e w6 ⟨q6, c6, rfl, HT6, X, HX6, HE6⟩
            have HO6 : Hid ((#[.int .u64 (s.qb : Int), .int .u64 (s.qn : Int), .int .i64 s.at_, .int .i64 s.fr, .int .i64 s.tq, .slice q6 bs.length c6, .int .u64 ((a + i : Nat) : Int)] : Array Value).all (·.oneCell') = true) := by show _ = _; simp [Value.oneCell']
            clear CA HRO HRS2 f5
            go_wp2_with (refine wpList_store_mid rfl 33 _ _ rfl w2.heap.size 0 #[.int .u64 (s.qb : Int), .int .u64 (s.qn : Int), .int .i64 s.at_, .int .i64 s.fr, .int .i64 s.tq, .slice q6 bs.length c6, .int .u64 ((a + i : Nat) : Int)] rfl rfl HT6.out sz_Out HO6.out ?_; rw [HX6.out])
            go_roundg g'
            case measure => omega
            case rel => exact ⟨k + 1, a + i, by go_num, by omega, by omega, by omega, by omega, HE6⟩
      · have hae : a = N := by omega
        have ed : decide (a = bs.length) = true := decide_eq_true (by rw [HN.out]; exact hae)
        have f8 : V0.cell? ⟨WS.heap.size, 8, none⟩ = some (.bool true) := by rw [← ed]; exact cell_of_row (k := 8) gi rfl
        have hrows : (bs.take a).flatten = rows := by rw [hae, ← HN.out, List.take_length]; exact HFL.out
        have f7 : V0.cell? ⟨WS.heap.size, 7, none⟩ = some (.slice qr rows.length cr) := by rw [← hrows]; exact cell_of_row (k := 7) gi rfl
        have f6 : V0.cell? ⟨w2.heap.size, 6, none⟩ = some (.int .u64 (a : Int)) := cell_of_row (k := 6) go rfl
        rw [← hae] at f5
        have hlr : ListIs rRow 1 24 Ki V0 (.slice qr rows.length cr) rows := by
          obtain ⟨v', u', e', _, _, h4⟩ := hri
          have e9 : u' = .slice qr rows.length cr := by
            have := congrArg (fun l => l[7]?) e'
            simp only [List.getElem?_cons_succ, List.getElem?_cons_zero, Option.some.injEq] at this
            rw [← this, hrows]
          rw [← e9]
          have h5 : ListIs rRow 1 24 Ki V0 u' (bs.take a).flatten := h4
          rw [hrows] at h5
          exact h5
        obtain ⟨lo1, lo2⟩ := HL0.out V0 HI.out.bel
        have CR := hid (rows_eq _ _ rows Ki K V0 hlr lo1 (fun b hb => (hKi b hb).1) lo2)
        have HBV : Hid (Below w.heap.size w V0) := HI.out.bel
        have HZ : Hid (w2.heap.size < V0.heap.size) := by have := HI.out.sz; show _ < _; omega
        have hm9 : (a : Int) % 18446744073709551616 = (a : Int) := by omega
        have te : ((a : Int) == (a : Int)) = true := by simp
        clear go hKo hro gi hKi hri hst ed hrows hlr lo1 lo2 HI
        subst hae
        by_cases hkz : k < a
        · have z1 : (k : Int) < (a : Int) := by omega
          go_wp2_with fail
          refine CR.out.mono ?_
          rintro e w6 ⟨rfl, hb6⟩
          have y5 : w6.cell? ⟨w2.heap.size, 5, none⟩ = some (.slice qo a co) := (hb6.cell (p := ⟨w2.heap.size, 5, none⟩) HZ.out).trans f5
          have y6 : w6.cell? ⟨w2.heap.size, 6, none⟩ = some (.int .u64 (a : Int)) := (hb6.cell (p := ⟨w2.heap.size, 6, none⟩) HZ.out).trans f6
          have HB6 : Hid (Below w.heap.size w w6) := HBV.out.trans (hb6.mono HBV.out.size)
          clear CR hb6 f5 f6 f7 f8
          go_wp2_with fail
          go_ret
          exact ⟨rfl, HB6.out⟩
        · have z1 : ¬ (k : Int) < (a : Int) := by omega
          go_wp2_with fail
          refine CR.out.mono ?_
          rintro e w6 ⟨rfl, hb6⟩
          have y5 : w6.cell? ⟨w2.heap.size, 5, none⟩ = some (.slice qo a co) := (hb6.cell (p := ⟨w2.heap.size, 5, none⟩) HZ.out).trans f5
          have y6 : w6.cell? ⟨w2.heap.size, 6, none⟩ = some (.int .u64 (a : Int)) := (hb6.cell (p := ⟨w2.heap.size, 6, none⟩) HZ.out).trans f6
          have HB6 : Hid (Below w.heap.size w w6) := HBV.out.trans (hb6.mono HBV.out.size)
          clear CR hb6 f5 f6 f7 f8
          go_wp2_with fail
          go_ret
          exact ⟨rfl, HB6.out⟩
end Go.Proofs.Ytnajchehdgagmaa
