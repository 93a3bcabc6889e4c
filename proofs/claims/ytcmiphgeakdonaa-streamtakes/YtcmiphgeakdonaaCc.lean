/- The reference: a stream that is told how much came. -/
import Derived.Test.YtcmiphgeakdonaaCb
namespace Go.Proofs.Ytcmiphgeakdonaa
open Go.Shelf Go.RowKit Go.Lib Go.Sort
set_option linter.unusedVariables false
set_option linter.unusedSimpArgs false
attribute [local go_sem ↓] Go.wp_at_zero Go.wp_at_succ
set_option maxRecDepth 100000 in
set_option maxHeartbeats 8000000 in
theorem refAcked_any (cs : List Value) (x : Ot) (s : Strm) (seq : Nat) (K : Nat → Prop) (w : World) (h : rOut K w cs x) (hs : okS s) (hq : seq < 18446744073709551616) (hK : ∀ b, K b → b < w.heap.size) :
    Calls Try.prog 14 #[.agg cs.toArray, .agg #[.int .u64 (s.qb : Int), .int .u64 (s.qn : Int), .int .i64 s.at_, .int .i64 s.fr, .int .i64 s.tq], .int .u64 (seq : Int)] w fun e w' => ∃ cs', e = .returned (.agg cs'.toArray) ∧ rOut (From w.heap.size w') w' cs' (ackP x s seq) ∧ Below w.heap.size w w' := by
  obtain ⟨q, c, rfl, hok, hl, hcap, hby⟩ := out_cells h
  obtain ⟨W0, hW0, hb0, hs0, g0, g1, g2⟩ := three_boxes w #[.int .u64 (x.m.qb : Int), .int .u64 (x.m.qn : Int), .int .i64 x.m.at_, .int .i64 x.m.fr, .int .i64 x.m.tq, .slice q x.b.length c, .int .u64 (x.a : Int)] #[.int .u64 (s.qb : Int), .int .u64 (s.qn : Int), .int .i64 s.at_, .int .i64 s.fr, .int .i64 s.tq] #[.int .u64 0, .int .u64 0, .int .i64 0, .int .i64 0, .int .i64 0, .slice none 0 0, .int .u64 0] 29 26 29
  have CF : Hid (Calls Try.prog 5 #[.agg #[.int .u64 (x.m.qb : Int), .int .u64 (x.m.qn : Int), .int .i64 x.m.at_, .int .i64 x.m.fr, .int .i64 x.m.tq, .slice q x.b.length c, .int .u64 (x.a : Int)]] W0 fun e w' => ∃ cs', e = .returned (asV cs') ∧ rOut (From W0.heap.size w') w' cs' x ∧ Below W0.heap.size W0 w') := copyOut_any K W0 [.int .u64 (x.m.qb : Int), .int .u64 (x.m.qn : Int), .int .i64 x.m.at_, .int .i64 x.m.fr, .int .i64 x.m.tq, .slice q x.b.length c, .int .u64 (x.a : Int)] x (mOut _ _ _ _ _ _ (fun _ h => h) (kept_of hK hb0) h) (fun b hk => Nat.lt_of_lt_of_le (hK b hk) hb0.size)
  have HRO : Hid (W0.rangeAt w.heap.size 0 [.int .u64 (x.m.qb : Int), .int .u64 (x.m.qn : Int), .int .i64 x.m.at_, .int .i64 x.m.fr, .int .i64 x.m.tq, .slice q x.b.length c, .int .u64 (x.a : Int)]) := fun j u hu => by rw [Nat.zero_add]; exact cell_of_row g0 (by simpa using hu)
  have HOK : Hid (okS x.m ∧ x.a < 18446744073709551616) := hok
  have HQ : Hid (seq < 18446744073709551616) := hq
  have HS0 : Hid (W0.heap.size = w.heap.size + 3) := hs0
  have HG : Hid (W0.heap[w.heap.size]? = some (.cells #[.int .u64 (x.m.qb : Int), .int .u64 (x.m.qn : Int), .int .i64 x.m.at_, .int .i64 x.m.fr, .int .i64 x.m.tq, .slice q x.b.length c, .int .u64 (x.a : Int)] 29 (0, 0)) ∧ W0.heap[w.heap.size + 1]? = some (.cells #[.int .u64 (s.qb : Int), .int .u64 (s.qn : Int), .int .i64 s.at_, .int .i64 s.fr, .int .i64 s.tq] 26 (0, 0)) ∧ W0.heap[w.heap.size + 1 + 1]? = some (.cells #[.int .u64 0, .int .u64 0, .int .i64 0, .int .i64 0, .int .i64 0, .slice none 0 0, .int .u64 0] 29 (0, 0)) ∧ Below w.heap.size w W0) := ⟨g0, g1, g2, hb0⟩
  have hn63 : x.b.length ≤ 5864062014806 := by omega
  clear h hl hcap hby hb0 g0 g1 g2 hs0 hK hok hs
  go_enter Try.func14, Try.ntmps14
  go_wp2_with (refine wpList_load_mid rfl 29 _ rfl w.heap.size 0 rfl _ _ HRO.out Try.underlying29 rfl sz_Out ?_)
  refine CF.out.mono ?_
  rintro e w1 ⟨cs1, rfl, hr1, hb1⟩
  obtain ⟨q2, c2, rfl, _, hl2, _, _⟩ := out_cells hr1
  rw [show asV [.int .u64 (x.m.qb : Int), .int .u64 (x.m.qn : Int), .int .i64 x.m.at_, .int .i64 x.m.fr, .int .i64 x.m.tq, .slice q2 x.b.length c2, .int .u64 (x.a : Int)] = Value.agg #[.int .u64 (x.m.qb : Int), .int .u64 (x.m.qn : Int), .int .i64 x.m.at_, .int .i64 x.m.fr, .int .i64 x.m.tq, .slice q2 x.b.length c2, .int .u64 (x.a : Int)] from rfl]
  have EQ := eql_strm (s.qb : Int) (s.qn : Int) s.at_ s.fr s.tq (x.m.qb : Int) (x.m.qn : Int) x.m.at_ x.m.fr x.m.tq
  have hsm : (decide ((s.qb : Int) = (x.m.qb : Int)) && decide ((s.qn : Int) = (x.m.qn : Int)) && decide (s.at_ = x.m.at_) && decide (s.fr = x.m.fr) && decide (s.tq = x.m.tq)) = sameS s x.m := by
    unfold sameS
    rw [show decide ((s.qb : Int) = (x.m.qb : Int)) = decide (s.qb = x.m.qb) from decide_eq_decide.2 (by omega), show decide ((s.qn : Int) = (x.m.qn : Int)) = decide (s.qn = x.m.qn) from decide_eq_decide.2 (by omega)]
  rw [hsm] at EQ
  clear hsm hW0 CF HRO
  obtain ⟨i1, i2, i3, i4⟩ := HG.out
  have hgo := (hb1.block _ (by have := HS0.out; omega)).trans i1
  obtain ⟨hto, XO, hXO, _, hsO, hkO⟩ := put_row w1 w.heap.size _ 29 hgo [.int .u64 (x.m.qb : Int), .int .u64 (x.m.qn : Int), .int .i64 x.m.at_, .int .i64 x.m.fr, .int .i64 x.m.tq, .slice q2 x.b.length c2, .int .u64 (x.a : Int)] rfl Try.underlying29 rfl sz_Out
  have hfo := box_full w1 w.heap.size _ 29 hgo [.int .u64 (x.m.qb : Int), .int .u64 (x.m.qn : Int), .int .i64 x.m.at_, .int .i64 x.m.fr, .int .i64 x.m.tq, .slice q2 x.b.length c2, .int .u64 (x.a : Int)] rfl
  rw [hXO] at hfo
  have HTO : Hid (w1.there w.heap.size 0 7) := hto
  have HXO : Hid (w1.setCells w.heap.size 0 (#[.int .u64 (x.m.qb : Int), .int .u64 (x.m.qn : Int), .int .i64 x.m.at_, .int .i64 x.m.fr, .int .i64 x.m.tq, .slice q2 x.b.length c2, .int .u64 (x.a : Int)] : Array Value).toList = XO) := hXO
  have HOO : Hid ((#[.int .u64 (x.m.qb : Int), .int .u64 (x.m.qn : Int), .int .i64 x.m.at_, .int .i64 x.m.fr, .int .i64 x.m.tq, .slice q2 x.b.length c2, .int .u64 (x.a : Int)] : Array Value).all (·.oneCell') = true) := by show _ = _; simp [Value.oneCell']
  have hbw1 : Below w.heap.size w w1 := i4.trans (hb1.mono i4.size)
  have v1 : XO.heap[w.heap.size]? = some (.cells #[.int .u64 (x.m.qb : Int), .int .u64 (x.m.qn : Int), .int .i64 x.m.at_, .int .i64 x.m.fr, .int .i64 x.m.tq, .slice q2 x.b.length c2, .int .u64 (x.a : Int)] 29 (0, 0)) := hfo
  have v2 : XO.heap[w.heap.size + 1]? = some (.cells #[.int .u64 (s.qb : Int), .int .u64 (s.qn : Int), .int .i64 s.at_, .int .i64 s.fr, .int .i64 s.tq] 26 (0, 0)) := (hkO.block _ (by show _ ≠ _; omega)).trans ((hb1.block _ (by have := HS0.out; omega)).trans i2)
  have v3 : XO.heap[w.heap.size + 1 + 1]? = some (.cells #[.int .u64 0, .int .u64 0, .int .i64 0, .int .i64 0, .int .i64 0, .slice none 0 0, .int .u64 0] 29 (0, 0)) := (hkO.block _ (by show _ ≠ _; omega)).trans ((hb1.block _ (by have := HS0.out; omega)).trans i3)
  have v4 : Below w.heap.size w XO := ⟨hkO.os.trans hbw1.os, hkO.tape.trans hbw1.tape, hkO.output.trans hbw1.output, by have := hbw1.size; omega, fun b hb => (hkO.block b (by show b ≠ _; omega)).trans (hbw1.block b hb)⟩
  have v5 : ListIs rBch 1 24 (From W0.heap.size XO) XO (.slice q2 x.b.length c2) x.b := hl2.mono mBch (fun b h => ⟨h.1, by have := h.2; omega⟩) ⟨hkO.os, hkO.tape, hkO.output, by omega, fun b h => hkO.block b (by show b ≠ _; have := h.1; have := HS0.out; omega)⟩
  have v6 : XO.heap.size = w1.heap.size := hsO
  have hw13 : w.heap.size + 3 ≤ w1.heap.size := by have := hb1.size; have := HS0.out; omega
  clear hgo hto hXO hsO hkO hfo hbw1 i1 i2 i3 i4 hl2 hr1 hb1 HG
  have a0 := cell_of_row (k := 0) (v := .int .u64 (x.m.qb : Int)) v1 rfl
  have a1 := cell_of_row (k := 1) (v := .int .u64 (x.m.qn : Int)) v1 rfl
  have a2 := cell_of_row (k := 2) (v := .int .i64 x.m.at_) v1 rfl
  have a3 := cell_of_row (k := 3) (v := .int .i64 x.m.fr) v1 rfl
  have a4 := cell_of_row (k := 4) (v := .int .i64 x.m.tq) v1 rfl
  have a5 := cell_of_row (k := 5) (v := .slice q2 x.b.length c2) v1 rfl
  have d0 := cell_of_row (k := 0) (v := .int .u64 (s.qb : Int)) v2 rfl
  have d1 := cell_of_row (k := 1) (v := .int .u64 (s.qn : Int)) v2 rfl
  have d2 := cell_of_row (k := 2) (v := .int .i64 s.at_) v2 rfl
  have d3 := cell_of_row (k := 3) (v := .int .i64 s.fr) v2 rfl
  have d4 := cell_of_row (k := 4) (v := .int .i64 s.tq) v2 rfl
  have hm9 : (x.b.length : Int) % 18446744073709551616 = (x.b.length : Int) := by omega
  cases hsm : sameS s x.m with
  | false =>
    rw [hsm] at EQ
    have HP : Hid (ackP x s seq = x) := by show _ = _; unfold ackP; rw [hsm]; rfl
    clear hsm
    obtain ⟨hth, X, hX, hld, hsX, hkX⟩ := put_row XO (w.heap.size + 1 + 1) _ 29 v3 [.int .u64 (x.m.qb : Int), .int .u64 (x.m.qn : Int), .int .i64 x.m.at_, .int .i64 x.m.fr, .int .i64 x.m.tq, .slice q2 x.b.length c2, .int .u64 (x.a : Int)] rfl Try.underlying29 rfl sz_Out
    have HTH : Hid (XO.there (w.heap.size + 1 + 1) 0 7) := hth
    have HWX : Hid (XO.setCells (w.heap.size + 1 + 1) 0 (#[.int .u64 (x.m.qb : Int), .int .u64 (x.m.qn : Int), .int .i64 x.m.at_, .int .i64 x.m.fr, .int .i64 x.m.tq, .slice q2 x.b.length c2, .int .u64 (x.a : Int)] : Array Value).toList = X) := hX
    have HLD : Hid ((loadVar 29 ⟨w.heap.size + 1 + 1, 0, none⟩).run Try.prog X = .ok (.agg #[.int .u64 (x.m.qb : Int), .int .u64 (x.m.qn : Int), .int .i64 x.m.at_, .int .i64 x.m.fr, .int .i64 x.m.tq, .slice q2 x.b.length c2, .int .u64 (x.a : Int)]) X) := hld
    have HON : Hid ((#[.int .u64 (x.m.qb : Int), .int .u64 (x.m.qn : Int), .int .i64 x.m.at_, .int .i64 x.m.fr, .int .i64 x.m.tq, .slice q2 x.b.length c2, .int .u64 (x.a : Int)] : Array Value).all (·.oneCell') = true) := by show _ = _; simp [Value.oneCell']
    have HRV : Hid (XO.rangeAt w.heap.size 0 [.int .u64 (x.m.qb : Int), .int .u64 (x.m.qn : Int), .int .i64 x.m.at_, .int .i64 x.m.fr, .int .i64 x.m.tq, .slice q2 x.b.length c2, .int .u64 (x.a : Int)]) := fun j u hu => by rw [Nat.zero_add]; exact cell_of_row v1 (by simpa using hu)
    have HFX : Hid (Below w.heap.size w X) := ⟨hkX.os.trans v4.os, hkX.tape.trans v4.tape, hkX.output.trans v4.output, by have := v4.size; omega, fun b hb => (hkX.block b (by show b ≠ _; omega)).trans (v4.block b hb)⟩
    have HLX : Hid (ListIs rBch 1 24 (From w.heap.size X) X (.slice q2 x.b.length c2) x.b) := v5.mono mBch (fun b h => ⟨by have := h.1; have := HS0.out; omega, by have := h.2; omega⟩) ⟨hkX.os, hkX.tape, hkX.output, by omega, fun b h => hkX.block b (by show b ≠ _; have := h.1; have := HS0.out; omega)⟩
    clear v1 v2 v3 v4 v5 v6 hth hX hld hsX hkX
    go_wp2_with (first | (refine wpList_store_mid rfl 29 _ _ rfl w.heap.size 0 #[.int .u64 (x.m.qb : Int), .int .u64 (x.m.qn : Int), .int .i64 x.m.at_, .int .i64 x.m.fr, .int .i64 x.m.tq, .slice q2 x.b.length c2, .int .u64 (x.a : Int)] rfl rfl HTO.out sz_Out HOO.out ?_; rw [HXO.out]) | (refine wpList_store_mid rfl 29 _ _ rfl (w.heap.size + 1 + 1) 0 #[.int .u64 (x.m.qb : Int), .int .u64 (x.m.qn : Int), .int .i64 x.m.at_, .int .i64 x.m.fr, .int .i64 x.m.tq, .slice q2 x.b.length c2, .int .u64 (x.a : Int)] rfl rfl HTH.out sz_Out HON.out ?_; rw [HWX.out]) | (refine wpList_load_mid rfl 29 _ rfl w.heap.size 0 rfl _ _ HRV.out Try.underlying29 rfl sz_Out ?_))
    refine bodyPost_ret (v := .agg #[.int .u64 (x.m.qb : Int), .int .u64 (x.m.qn : Int), .int .i64 x.m.at_, .int .i64 x.m.fr, .int .i64 x.m.tq, .slice q2 x.b.length c2, .int .u64 (x.a : Int)]) (by simp only [results, Try.results14]; simp [asAddr, Act.put, HLD.out]) rfl ?_
    exact ⟨[.int .u64 (x.m.qb : Int), .int .u64 (x.m.qn : Int), .int .i64 x.m.at_, .int .i64 x.m.fr, .int .i64 x.m.tq, .slice q2 x.b.length c2, .int .u64 (x.a : Int)], rfl, by rw [HP.out]; exact ⟨_, rfl, ⟨HOK.out.1, HOK.out.2⟩, HLX.out⟩, HFX.out⟩
  | true =>
    rw [hsm] at EQ
    by_cases hle : seq ≤ x.b.length
    · have zl : (seq : Int) ≤ (x.b.length : Int) := by omega
      have HP : Hid (ackP x s seq = ⟨x.m, x.b, seq⟩) := by show _ = _; unfold ackP; rw [hsm, decide_eq_true hle]; rfl
      have c6 := cell_of_row (k := 6) (v := .int .u64 (x.a : Int)) v1 rfl
      have f6 := frozen_zero v1 6
      obtain ⟨V, hV⟩ : ∃ V, XO.setCell ⟨w.heap.size, 6, none⟩ (.int .u64 (seq : Int)) = V := ⟨_, rfl⟩
      have u1 : V.heap[w.heap.size]? = some (.cells #[.int .u64 (x.m.qb : Int), .int .u64 (x.m.qn : Int), .int .i64 x.m.at_, .int .i64 x.m.fr, .int .i64 x.m.tq, .slice q2 x.b.length c2, .int .u64 (seq : Int)] 29 (0, 0)) := by rw [← hV, heap_setCell_same XO w.heap.size 6 _ 29 _ v1]; rfl
      obtain ⟨p1, p2, p3, p4, p5⟩ := setCell_any XO w.heap.size 6 (.int .u64 (seq : Int))
      rw [hV] at p1 p2 p3 p4 p5
      have u2 := (p5 _ (by omega)).trans v2
      have u3 := (p5 _ (by omega)).trans v3
      have u4 : Below w.heap.size w V := ⟨p2.trans v4.os, p3.trans v4.tape, p4.trans v4.output, by have := v4.size; omega, fun b hb => (p5 b (by omega)).trans (v4.block b hb)⟩
      have u5 : ListIs rBch 1 24 (From W0.heap.size V) V (.slice q2 x.b.length c2) x.b := v5.mono mBch (fun b h => ⟨h.1, by have := h.2; omega⟩) ⟨p2, p3, p4, by omega, fun b h => p5 b (by have := h.1; have := HS0.out; omega)⟩
      have u6 : V.heap.size = w1.heap.size := by omega
      clear v1 v2 v3 v4 v5 v6 p1 p2 p3 p4 p5 hsm hle
      have v1 := u1
      have v2 := u2
      have v3 := u3
      have v4 := u4
      have v5 := u5
      have v6 := u6
      clear u1 u2 u3 u4 u5 u6
      obtain ⟨hth, X, hX, hld, hsX, hkX⟩ := put_row V (w.heap.size + 1 + 1) _ 29 v3 [.int .u64 (x.m.qb : Int), .int .u64 (x.m.qn : Int), .int .i64 x.m.at_, .int .i64 x.m.fr, .int .i64 x.m.tq, .slice q2 x.b.length c2, .int .u64 (seq : Int)] rfl Try.underlying29 rfl sz_Out
      have HTH : Hid (V.there (w.heap.size + 1 + 1) 0 7) := hth
      have HWX : Hid (V.setCells (w.heap.size + 1 + 1) 0 (#[.int .u64 (x.m.qb : Int), .int .u64 (x.m.qn : Int), .int .i64 x.m.at_, .int .i64 x.m.fr, .int .i64 x.m.tq, .slice q2 x.b.length c2, .int .u64 (seq : Int)] : Array Value).toList = X) := hX
      have HLD : Hid ((loadVar 29 ⟨w.heap.size + 1 + 1, 0, none⟩).run Try.prog X = .ok (.agg #[.int .u64 (x.m.qb : Int), .int .u64 (x.m.qn : Int), .int .i64 x.m.at_, .int .i64 x.m.fr, .int .i64 x.m.tq, .slice q2 x.b.length c2, .int .u64 (seq : Int)]) X) := hld
      have HON : Hid ((#[.int .u64 (x.m.qb : Int), .int .u64 (x.m.qn : Int), .int .i64 x.m.at_, .int .i64 x.m.fr, .int .i64 x.m.tq, .slice q2 x.b.length c2, .int .u64 (seq : Int)] : Array Value).all (·.oneCell') = true) := by show _ = _; simp [Value.oneCell']
      have HRV : Hid (V.rangeAt w.heap.size 0 [.int .u64 (x.m.qb : Int), .int .u64 (x.m.qn : Int), .int .i64 x.m.at_, .int .i64 x.m.fr, .int .i64 x.m.tq, .slice q2 x.b.length c2, .int .u64 (seq : Int)]) := fun j u hu => by rw [Nat.zero_add]; exact cell_of_row v1 (by simpa using hu)
      have HFX : Hid (Below w.heap.size w X) := ⟨hkX.os.trans v4.os, hkX.tape.trans v4.tape, hkX.output.trans v4.output, by have := v4.size; omega, fun b hb => (hkX.block b (by show b ≠ _; omega)).trans (v4.block b hb)⟩
      have HLX : Hid (ListIs rBch 1 24 (From w.heap.size X) X (.slice q2 x.b.length c2) x.b) := v5.mono mBch (fun b h => ⟨by have := h.1; have := HS0.out; omega, by have := h.2; omega⟩) ⟨hkX.os, hkX.tape, hkX.output, by omega, fun b h => hkX.block b (by show b ≠ _; have := h.1; have := HS0.out; omega)⟩
      clear v1 v2 v3 v4 v5 v6 hth hX hld hsX hkX
      go_wp2_with (first | (refine wpList_store_mid rfl 29 _ _ rfl w.heap.size 0 #[.int .u64 (x.m.qb : Int), .int .u64 (x.m.qn : Int), .int .i64 x.m.at_, .int .i64 x.m.fr, .int .i64 x.m.tq, .slice q2 x.b.length c2, .int .u64 (x.a : Int)] rfl rfl HTO.out sz_Out HOO.out ?_; rw [HXO.out]) | (refine wpList_store_mid rfl 29 _ _ rfl (w.heap.size + 1 + 1) 0 #[.int .u64 (x.m.qb : Int), .int .u64 (x.m.qn : Int), .int .i64 x.m.at_, .int .i64 x.m.fr, .int .i64 x.m.tq, .slice q2 x.b.length c2, .int .u64 (seq : Int)] rfl rfl HTH.out sz_Out HON.out ?_; rw [HWX.out]) | (refine wpList_load_mid rfl 29 _ rfl w.heap.size 0 rfl _ _ HRV.out Try.underlying29 rfl sz_Out ?_))
      refine bodyPost_ret (v := .agg #[.int .u64 (x.m.qb : Int), .int .u64 (x.m.qn : Int), .int .i64 x.m.at_, .int .i64 x.m.fr, .int .i64 x.m.tq, .slice q2 x.b.length c2, .int .u64 (seq : Int)]) (by simp only [results, Try.results14]; simp [asAddr, Act.put, HLD.out]) rfl ?_
      exact ⟨[.int .u64 (x.m.qb : Int), .int .u64 (x.m.qn : Int), .int .i64 x.m.at_, .int .i64 x.m.fr, .int .i64 x.m.tq, .slice q2 x.b.length c2, .int .u64 (seq : Int)], rfl, by rw [HP.out]; exact ⟨_, rfl, ⟨HOK.out.1, HQ.out⟩, HLX.out⟩, HFX.out⟩
    · have zl : ¬ (seq : Int) ≤ (x.b.length : Int) := by omega
      have HP : Hid (ackP x s seq = x) := by show _ = _; unfold ackP; rw [hsm, decide_eq_false hle]; rfl
      clear hsm hle
      obtain ⟨hth, X, hX, hld, hsX, hkX⟩ := put_row XO (w.heap.size + 1 + 1) _ 29 v3 [.int .u64 (x.m.qb : Int), .int .u64 (x.m.qn : Int), .int .i64 x.m.at_, .int .i64 x.m.fr, .int .i64 x.m.tq, .slice q2 x.b.length c2, .int .u64 (x.a : Int)] rfl Try.underlying29 rfl sz_Out
      have HTH : Hid (XO.there (w.heap.size + 1 + 1) 0 7) := hth
      have HWX : Hid (XO.setCells (w.heap.size + 1 + 1) 0 (#[.int .u64 (x.m.qb : Int), .int .u64 (x.m.qn : Int), .int .i64 x.m.at_, .int .i64 x.m.fr, .int .i64 x.m.tq, .slice q2 x.b.length c2, .int .u64 (x.a : Int)] : Array Value).toList = X) := hX
      have HLD : Hid ((loadVar 29 ⟨w.heap.size + 1 + 1, 0, none⟩).run Try.prog X = .ok (.agg #[.int .u64 (x.m.qb : Int), .int .u64 (x.m.qn : Int), .int .i64 x.m.at_, .int .i64 x.m.fr, .int .i64 x.m.tq, .slice q2 x.b.length c2, .int .u64 (x.a : Int)]) X) := hld
      have HON : Hid ((#[.int .u64 (x.m.qb : Int), .int .u64 (x.m.qn : Int), .int .i64 x.m.at_, .int .i64 x.m.fr, .int .i64 x.m.tq, .slice q2 x.b.length c2, .int .u64 (x.a : Int)] : Array Value).all (·.oneCell') = true) := by show _ = _; simp [Value.oneCell']
      have HRV : Hid (XO.rangeAt w.heap.size 0 [.int .u64 (x.m.qb : Int), .int .u64 (x.m.qn : Int), .int .i64 x.m.at_, .int .i64 x.m.fr, .int .i64 x.m.tq, .slice q2 x.b.length c2, .int .u64 (x.a : Int)]) := fun j u hu => by rw [Nat.zero_add]; exact cell_of_row v1 (by simpa using hu)
      have HFX : Hid (Below w.heap.size w X) := ⟨hkX.os.trans v4.os, hkX.tape.trans v4.tape, hkX.output.trans v4.output, by have := v4.size; omega, fun b hb => (hkX.block b (by show b ≠ _; omega)).trans (v4.block b hb)⟩
      have HLX : Hid (ListIs rBch 1 24 (From w.heap.size X) X (.slice q2 x.b.length c2) x.b) := v5.mono mBch (fun b h => ⟨by have := h.1; have := HS0.out; omega, by have := h.2; omega⟩) ⟨hkX.os, hkX.tape, hkX.output, by omega, fun b h => hkX.block b (by show b ≠ _; have := h.1; have := HS0.out; omega)⟩
      clear v1 v2 v3 v4 v5 v6 hth hX hld hsX hkX
      go_wp2_with (first | (refine wpList_store_mid rfl 29 _ _ rfl w.heap.size 0 #[.int .u64 (x.m.qb : Int), .int .u64 (x.m.qn : Int), .int .i64 x.m.at_, .int .i64 x.m.fr, .int .i64 x.m.tq, .slice q2 x.b.length c2, .int .u64 (x.a : Int)] rfl rfl HTO.out sz_Out HOO.out ?_; rw [HXO.out]) | (refine wpList_store_mid rfl 29 _ _ rfl (w.heap.size + 1 + 1) 0 #[.int .u64 (x.m.qb : Int), .int .u64 (x.m.qn : Int), .int .i64 x.m.at_, .int .i64 x.m.fr, .int .i64 x.m.tq, .slice q2 x.b.length c2, .int .u64 (x.a : Int)] rfl rfl HTH.out sz_Out HON.out ?_; rw [HWX.out]) | (refine wpList_load_mid rfl 29 _ rfl w.heap.size 0 rfl _ _ HRV.out Try.underlying29 rfl sz_Out ?_))
      refine bodyPost_ret (v := .agg #[.int .u64 (x.m.qb : Int), .int .u64 (x.m.qn : Int), .int .i64 x.m.at_, .int .i64 x.m.fr, .int .i64 x.m.tq, .slice q2 x.b.length c2, .int .u64 (x.a : Int)]) (by simp only [results, Try.results14]; simp [asAddr, Act.put, HLD.out]) rfl ?_
      exact ⟨[.int .u64 (x.m.qb : Int), .int .u64 (x.m.qn : Int), .int .i64 x.m.at_, .int .i64 x.m.fr, .int .i64 x.m.tq, .slice q2 x.b.length c2, .int .u64 (x.a : Int)], rfl, by rw [HP.out]; exact ⟨_, rfl, ⟨HOK.out.1, HOK.out.2⟩, HLX.out⟩, HFX.out⟩
end Go.Proofs.Ytcmiphgeakdonaa
