/- A stream that is sent, copied by the reference. -/
import Derived.Test.YtcmiphgeakdonaaCa
namespace Go.Proofs.Ytcmiphgeakdonaa
open Go.Shelf Go.RowKit Go.Lib Go.Sort
set_option linter.unusedVariables false
set_option linter.unusedSimpArgs false
attribute [local go_sem ↓] Go.wp_at_zero Go.wp_at_succ
set_option maxRecDepth 100000 in
set_option maxHeartbeats 4000000 in
theorem copyOut_any : FreshC rOut 5 := by
  intro K w cs x h hK
  obtain ⟨v1, rfl, q1, n1⟩ := h
  have HL1 : Hid (ListIs rBch 1 24 K w v1 x.b) := n1
  obtain ⟨za1, ya1, rfl, ⟨nn1, nn2⟩, mm1⟩ := id n1
  show Calls Try.prog 5 #[.agg #[.int .u64 (x.m.qb : Int), .int .u64 (x.m.qn : Int), .int .i64 x.m.at_, .int .i64 x.m.fr, .int .i64 x.m.tq, .slice za1 x.b.length ya1, .int .u64 (x.a : Int)]] w _
  have HK : Hid (∀ b, K b → b < w.heap.size) := hK
  have HQ : Hid (okS x.m ∧ x.a < 18446744073709551616) := q1
  obtain ⟨W0, hW0, t0, hs0⟩ := Two.start w 29 #[.int .u64 (x.m.qb : Int), .int .u64 (x.m.qn : Int), .int .i64 x.m.at_, .int .i64 x.m.fr, .int .i64 x.m.tq, .slice za1 x.b.length ya1, .int .u64 (x.a : Int)] #[.int .u64 0, .int .u64 0, .int .i64 0, .int .i64 0, .int .i64 0, .slice none 0 0, .int .u64 0] rfl
  have HT0 : Hid (Two 29 [.int .u64 (x.m.qb : Int), .int .u64 (x.m.qn : Int), .int .i64 x.m.at_, .int .i64 x.m.fr, .int .i64 x.m.tq, .slice za1 x.b.length ya1, .int .u64 (x.a : Int)] w W0) := t0
  have HBY : Hid (x.b.length * 24 ≤ 140737488355328) := nn1
  obtain ⟨j0, hj0, hj1, hj2, hj3⟩ := inE_bch
  have hx63 : x.b.length ≤ 5864062014806 := by omega
  clear t0 hK nn1 nn2 mm1 n1 q1
  go_enter Try.func5, Try.ntmps5
  have c1 := HT0.out.cell (k := 5) (v := .slice za1 x.b.length ya1) rfl
  have HJ : Hid (OwnR rBch 1 30 W0.heap.size W0 (.slice none 0 0) (x.b.take 0)) := OwnR.none (World.ownsRow_nil _ _ _ _)
  go_wp2_with fail
  clear c1 hW0
  go_loopg [3, 9] x.b.length (fun gf s3 s8 wx => ∃ (u : Value) (i : Nat), u = s3 ∧ s8 = .int .i64 i ∧ i ≤ x.b.length ∧ x.b.length ≤ i + gf ∧ Hid (OwnR rBch 1 30 W0.heap.size wx u (x.b.take i)) ∧ Hid (Below W0.heap.size W0 wx))
  case atStart => exact ⟨_, 0, rfl, rfl, by omega, by omega, HJ, Below.refl _ _⟩
  case round =>
    clear HJ
    obtain ⟨u, i, rfl, rfl, hi1, hgf, HJ, HB⟩ := hrel
    by_cases hi : i < x.b.length
    · obtain ⟨g', rfl⟩ : ∃ g', gk = g' + 1 := ⟨gk - 1, by omega⟩
      have hbw := HB.out
      have hBw : Below w.heap.size w wr := HT0.out.2.2.trans (hbw.mono HT0.out.2.2.size)
      obtain ⟨b, o, pb, cb, rfl, hKb, c0, hlb⟩ := bch_at (ListIs.later mBch HL1.out HK.out hBw) i hi
      have htk : x.b.take (i + 1) = x.b.take i ++ [x.b[i]] := List.take_succ_eq_append_getElem hi
      obtain ⟨y, hy⟩ : ∃ y, x.b[i] = y := ⟨_, rfl⟩
      rw [hy] at c0 hlb htk
      have CC := hid (copyRows_any _ y K wr hlb (fun b hb => Nat.lt_of_lt_of_le (HK.out b hb) hBw.size))
      have HTK : Hid (x.b.take (i + 1) = x.b.take i ++ [y]) := htk
      have z0 : (0 : Int) ≤ (i : Int) := by omega
      have z1' : (i : Int) < (x.b.length : Int) := by omega
      clear hlb htk hy hKb hbw hBw HL1
      go_wp2_with fail
      refine CC.out.mono ?_
      rintro e w3 ⟨zb1, yb1, rfl, hr3, hb3⟩
      have hJX := HJ.out.keep mBch hb3
      have hlen : (x.b.take i).length = i := by simp; omega
      have hmx : i + 1 ≤ maxLen := by have := HBY.out; unfold maxLen; omega
      have hb80 : (i + 1) * 24 ≤ 140737488355328 := by have := HBY.out; omega
      obtain ⟨v', X2, e2, hJ2, hb2, hs2⟩ := OwnR.push mBch Try.underlying27 hj0 hj1 hj2 hj3 rfl (by omega) hJX (Nat.le_trans HB.out.size hb3.size) (cs := [.slice zb1 y.length yb1]) (x := y) (K2 := From wr.heap.size w3) rfl (fun c hc => by simp at hc; subst hc; rfl)
        (fun b hb => ⟨by have := hb.1; have := HB.out.size; omega, hb.2, fun e => by obtain ⟨_, _, _, ho, _⟩ := HJ.out; have := (ho.lt _ e).2; have := hb.1; omega⟩) ⟨_, rfl, hr3⟩ (by rw [hlen]; exact hb80) (by rw [hlen]; exact hmx)
      have HJ2 : Hid (OwnR rBch 1 30 W0.heap.size X2 v' (x.b.take (i + 1))) := by rw [HTK.out]; exact hJ2
      have HB2 : Hid (Below W0.heap.size W0 X2) := hb2 _ _ (HB.out.trans (hb3.mono HB.out.size)) (Nat.le_refl _)
      clear hJ2 hb2 hs2 hJX hlen hmx hb80 hr3 hb3 HJ HB CC c0
      go_wp2_with (at_builtin; refine Lib.wpList_append_run _ rfl _ _ _ _ rfl u (.slice (some ⟨w3.heap.size, 0, none⟩) 1 1) rfl rfl _ _ e2 ?_)
      go_roundg g'
      case measure => omega
      case rel => exact ⟨_, i + 1, rfl, by go_num, by omega, by omega, HJ2, HB2⟩
    · have z1 : ¬ (i : Int) < (x.b.length : Int) := by omega
      have hJ := HJ.out
      rw [List.take_of_length_le (by omega)] at hJ
      obtain ⟨p1, r1, huf, hl1⟩ := hJ.list mBch HBY.out
      subst huf
      have hb1 := HB.out
      clear HJ hJ HB
      have T1' : Two 29 [.int .u64 (x.m.qb : Int), .int .u64 (x.m.qn : Int), .int .i64 x.m.at_, .int .i64 x.m.fr, .int .i64 x.m.tq, .slice za1 x.b.length ya1, .int .u64 (x.a : Int)] w wr := HT0.out.call hb1
      obtain ⟨V1, hV1, f1, t1, s1, k1⟩ := T1'.put (k := 5) (by simp) (.slice p1 x.b.length r1)
      have d1 := T1'.cell (k := 5) (v := .slice za1 x.b.length ya1) rfl
      have T1 : Hid (Two 29 [.int .u64 (x.m.qb : Int), .int .u64 (x.m.qn : Int), .int .i64 x.m.at_, .int .i64 x.m.fr, .int .i64 x.m.tq, .slice p1 x.b.length r1, .int .u64 (x.a : Int)] w V1) := t1
      have L1 : Hid (ListIs rBch 1 24 (From (w.heap.size + 2) V1) V1 (.slice p1 x.b.length r1) x.b) := (hl1.less mBch HT0.out.lt).kept mBch k1
      clear hb1 hl1 T1' t1 s1 k1 HL1
      obtain ⟨hra, hth, W5, hW5, hld, hb5, s5, k5⟩ := T1.out.ret Try.underlying29 rfl sz_Out
      have HRA : Hid (V1.rangeAt w.heap.size 0 [.int .u64 (x.m.qb : Int), .int .u64 (x.m.qn : Int), .int .i64 x.m.at_, .int .i64 x.m.fr, .int .i64 x.m.tq, .slice p1 x.b.length r1, .int .u64 (x.a : Int)]) := hra
      have HTH : Hid (V1.there (w.heap.size + 1) 0 7) := hth
      have HW5 : Hid (V1.setCells (w.heap.size + 1) 0 (#[.int .u64 (x.m.qb : Int), .int .u64 (x.m.qn : Int), .int .i64 x.m.at_, .int .i64 x.m.fr, .int .i64 x.m.tq, .slice p1 x.b.length r1, .int .u64 (x.a : Int)] : Array Value).toList = W5) := hW5
      have HON : Hid ((#[.int .u64 (x.m.qb : Int), .int .u64 (x.m.qn : Int), .int .i64 x.m.at_, .int .i64 x.m.fr, .int .i64 x.m.tq, .slice p1 x.b.length r1, .int .u64 (x.a : Int)] : Array Value).all (·.oneCell') = true) := by show _ = _; simp [Value.oneCell']
      have HLD : Hid ((loadVar 29 ⟨w.heap.size + 1, 0, none⟩).run Try.prog W5 = .ok (.agg #[.int .u64 (x.m.qb : Int), .int .u64 (x.m.qn : Int), .int .i64 x.m.at_, .int .i64 x.m.fr, .int .i64 x.m.tq, .slice p1 x.b.length r1, .int .u64 (x.a : Int)]) W5) := hld
      have HBF : Hid (Below w.heap.size w W5) := hb5
      have M0 := hid ((L1.out.kept mBch k5).less mBch (C := w.heap.size) (by omega))
      clear hra hth hW5 hld hb5 s5 k5
      go_wp2_with (first | (refine wpList_load_mid rfl 29 _ rfl w.heap.size 0 rfl _ _ HRA.out Try.underlying29 rfl sz_Out ?_) | (refine wpList_store_mid rfl 29 _ _ rfl (w.heap.size + 1) 0 #[.int .u64 (x.m.qb : Int), .int .u64 (x.m.qn : Int), .int .i64 x.m.at_, .int .i64 x.m.fr, .int .i64 x.m.tq, .slice p1 x.b.length r1, .int .u64 (x.a : Int)] rfl rfl HTH.out sz_Out HON.out ?_; rw [HW5.out]))
      refine bodyPost_ret (v := .agg #[.int .u64 (x.m.qb : Int), .int .u64 (x.m.qn : Int), .int .i64 x.m.at_, .int .i64 x.m.fr, .int .i64 x.m.tq, .slice p1 x.b.length r1, .int .u64 (x.a : Int)]) (by simp only [results, Try.results5]; simp [asAddr, Act.put, HLD.out]) rfl ?_
      have hq := HQ.out
      exact ⟨[.int .u64 (x.m.qb : Int), .int .u64 (x.m.qn : Int), .int .i64 x.m.at_, .int .i64 x.m.fr, .int .i64 x.m.tq, .slice p1 x.b.length r1, .int .u64 (x.a : Int)], rfl, ⟨_, rfl, hq, M0.out⟩, HBF.out⟩
end Go.Proofs.Ytcmiphgeakdonaa
