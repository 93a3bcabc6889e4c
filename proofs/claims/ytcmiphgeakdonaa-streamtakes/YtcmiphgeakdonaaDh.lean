/- The reference: a stream with a batch. -/
import Derived.Test.YtcmiphgeakdonaaDg
namespace Go.Proofs.Ytcmiphgeakdonaa
open Go.Shelf Go.RowKit Go.Lib Go.Sort
set_option linter.unusedVariables false
set_option linter.unusedSimpArgs false
attribute [local go_sem ↓] Go.wp_at_zero Go.wp_at_succ
set_option maxRecDepth 100000 in
set_option maxHeartbeats 4000000 in
theorem refTake_bad (cs cl : List Value) (x : In_) (K : Nat → Prop) (w : World) (h : rIn K w cs x) (hin : inE x = 6) (hK : ∀ b, K b → b < w.heap.size) :
    Calls Try.prog 19 #[.agg cs.toArray, .agg cl.toArray] w fun e w' => TakR w 6 in0 e w' := by
  obtain ⟨q, c, q2, c2, rfl, hok, hn64, hl, hcap, hby, hl2, hcap2, hby2⟩ := in_cells2 h
  obtain ⟨W0, hW0, hb0, hs0, g0, g1, g2⟩ := three_boxes w #[.int .u64 (x.m.qb : Int), .int .u64 (x.m.qn : Int), .int .i64 x.m.at_, .int .i64 x.m.fr, .int .i64 x.m.tq, .int .u64 (x.n : Int), .slice q x.h.length c, .slice q2 x.r.length c2, .bool x.d] cl.toArray #[.int .u64 0, .int .u64 0, .int .i64 0, .int .i64 0, .int .i64 0, .int .u64 0, .slice none 0 0, .slice none 0 0, .bool false] 68 62 68
  have C1 : Hid (Calls Try.prog 22 #[.agg #[.int .u64 (x.m.qb : Int), .int .u64 (x.m.qn : Int), .int .i64 x.m.at_, .int .i64 x.m.fr, .int .i64 x.m.tq, .int .u64 (x.n : Int), .slice q x.h.length c, .slice q2 x.r.length c2, .bool x.d]] W0 fun e w' => e = .returned (.int .i64 6) ∧ Below W0.heap.size W0 w') := by have := refCheckIn_any _ x K W0 (mIn _ _ _ _ _ _ (fun _ h => h) (kept_of hK hb0) h) (fun b hb' => Nat.lt_of_lt_of_le (hK b hb') hb0.size); rw [hin] at this; exact this
  have HR0 : Hid (W0.rangeAt w.heap.size 0 [.int .u64 (x.m.qb : Int), .int .u64 (x.m.qn : Int), .int .i64 x.m.at_, .int .i64 x.m.fr, .int .i64 x.m.tq, .int .u64 (x.n : Int), .slice q x.h.length c, .slice q2 x.r.length c2, .bool x.d]) := fun j u hu => by rw [Nat.zero_add]; exact cell_of_row g0 (by simpa using hu)
  have HG : Hid (W0.heap[w.heap.size + 1 + 1]? = some (.cells #[.int .u64 0, .int .u64 0, .int .i64 0, .int .i64 0, .int .i64 0, .int .u64 0, .slice none 0 0, .slice none 0 0, .bool false] 68 (0, 0)) ∧ Below w.heap.size w W0 ∧ W0.heap.size = w.heap.size + 3) := ⟨g2, hb0, hs0⟩
  clear h hin hK hl hcap hby hl2 hcap2 hby2 hok hn64 hb0 hs0 g0 g1 g2
  go_enter Try.func19, Try.ntmps19
  go_wp2_with (refine wpList_load_mid rfl 68 _ rfl w.heap.size 0 rfl _ _ HR0.out Try.underlying68 rfl sz_In ?_)
  refine C1.out.mono ?_
  rintro e w1 ⟨rfl, hb1⟩
  obtain ⟨g2, hb0, hs0⟩ := HG.out
  obtain ⟨hth, X, hX, hld, hsX, hkX⟩ := put_row w1 (w.heap.size + 1 + 1) _ 68 ((hb1.block _ (by omega)).trans g2) [.int .u64 0, .int .u64 0, .int .i64 0, .int .i64 0, .int .i64 0, .int .u64 0, .slice none 0 0, .slice none 0 0, .bool false] rfl Try.underlying68 rfl sz_In
  have HTH : Hid (w1.there (w.heap.size + 1 + 1) 0 9) := hth
  have HWX : Hid (w1.setCells (w.heap.size + 1 + 1) 0 (#[.int .u64 0, .int .u64 0, .int .i64 0, .int .i64 0, .int .i64 0, .int .u64 0, .slice none 0 0, .slice none 0 0, .bool false] : Array Value).toList = X) := hX
  have HLD : Hid ((loadVar 68 ⟨w.heap.size + 1 + 1, 0, none⟩).run Try.prog X = .ok (.agg #[.int .u64 0, .int .u64 0, .int .i64 0, .int .i64 0, .int .i64 0, .int .u64 0, .slice none 0 0, .slice none 0 0, .bool false]) X) := hld
  have HON : Hid ((#[.int .u64 0, .int .u64 0, .int .i64 0, .int .i64 0, .int .i64 0, .int .u64 0, .slice none 0 0, .slice none 0 0, .bool false] : Array Value).all (·.oneCell') = true) := by show _ = _; simp [Value.oneCell']
  have hbw := hb0.trans (hb1.mono hb0.size)
  have HFI : Hid (TakR w 6 in0 (.returned (.tuple #[.agg #[.int .u64 0, .int .u64 0, .int .i64 0, .int .i64 0, .int .i64 0, .int .u64 0, .slice none 0 0, .slice none 0 0, .bool false], .int .i64 6])) X) := ⟨[.int .u64 0, .int .u64 0, .int .i64 0, .int .i64 0, .int .i64 0, .int .u64 0, .slice none 0 0, .slice none 0 0, .bool false], rfl, rIn0 _ _, ⟨hkX.os.trans hbw.os, hkX.tape.trans hbw.tape, hkX.output.trans hbw.output, by have := hbw.size; omega, fun b hb => (hkX.block b (by show b ≠ _; omega)).trans (hbw.block b hb)⟩⟩
  clear hth hX hld hsX hkX hbw g2 hb0 hs0 hb1 C1 HR0 hW0 HG
  go_wp2_with (refine wpList_store_mid rfl 68 _ _ rfl (w.heap.size + 1 + 1) 0 #[.int .u64 0, .int .u64 0, .int .i64 0, .int .i64 0, .int .i64 0, .int .u64 0, .slice none 0 0, .slice none 0 0, .bool false] rfl rfl HTH.out sz_In HON.out ?_; rw [HWX.out])
  refine bodyPost_ret (v := .tuple #[.agg #[.int .u64 0, .int .u64 0, .int .i64 0, .int .i64 0, .int .i64 0, .int .u64 0, .slice none 0 0, .slice none 0 0, .bool false], .int .i64 6]) (by simp only [results, Try.results19]; simp [asAddr, Act.put, HLD.out]) rfl ?_
  exact HFI.out
theorem via4 {G : Prop} {α β γ δ : Type} {A Q : α → β → γ → δ → Prop} (h1 : (∀ a b c d, A a b c d → Q a b c d) → G) (h2 : ∀ a b c d, A a b c d → Q a b c d) : G := h1 h2
theorem refG_good {x : In_} {y : Ms} (h1 : y.k = 4) (h2 : sameS y.m x.m = true) (h3 : ¬ 8 < y.r.length) : refG x y = refE x y.mg := by
  unfold refG
  rw [if_neg (by simpa using h1), if_neg (by rw [h2]; simp), if_neg h3]
set_option maxRecDepth 100000 in
set_option maxHeartbeats 8000000 in
theorem refTake_good (cs cl : List Value) (x : In_) (y : Ms) (K : Nat → Prop) (w : World) (h : rIn K w cs x) (hin : inE x = 0) (h' : rMs K w cl y) (hk256 : y.k < 256) (hK : ∀ b, K b → b < w.heap.size) :
    Calls Try.prog 19 #[.agg cs.toArray, .agg cl.toArray] w fun e w' => TakR w (refG x y) (takeG x y) e w' := by
  obtain ⟨i1, i2, i3, i4⟩ := inE_ok hin
  have hh3 : x.h.length ≤ 3 := by have := held_len x.h x.n x.n false i3 (by omega); omega
  have hrow := held_rows x.h x.n x.n false i3
  obtain ⟨q, c, q2, c2, rfl, hok, hn64, hl, hcap, hby, hl2, hcap2, hby2⟩ := in_cells2 h
  obtain ⟨hlen, k0, k2, k3, k4, k5, k6, k37, k38, ⟨qm, cm, k39, hlm⟩, hs64, hokm⟩ := id h'
  obtain ⟨W0, hW0, hb0, hs0, g0, g1, g2⟩ := three_boxes w #[.int .u64 (x.m.qb : Int), .int .u64 (x.m.qn : Int), .int .i64 x.m.at_, .int .i64 x.m.fr, .int .i64 x.m.tq, .int .u64 (x.n : Int), .slice q x.h.length c, .slice q2 x.r.length c2, .bool x.d] cl.toArray #[.int .u64 0, .int .u64 0, .int .i64 0, .int .i64 0, .int .i64 0, .int .u64 0, .slice none 0 0, .slice none 0 0, .bool false] 68 62 68
  have hbK0 : ∀ b, K b → b < W0.heap.size := fun b hb' => Nat.lt_of_lt_of_le (hK b hb') hb0.size
  have hr0 : rIn K W0 [.int .u64 (x.m.qb : Int), .int .u64 (x.m.qn : Int), .int .i64 x.m.at_, .int .i64 x.m.fr, .int .i64 x.m.tq, .int .u64 (x.n : Int), .slice q x.h.length c, .slice q2 x.r.length c2, .bool x.d] x := mIn _ _ _ _ _ _ (fun _ h => h) (kept_of hK hb0) h
  have C1 : Hid (Calls Try.prog 22 #[.agg #[.int .u64 (x.m.qb : Int), .int .u64 (x.m.qn : Int), .int .i64 x.m.at_, .int .i64 x.m.fr, .int .i64 x.m.tq, .int .u64 (x.n : Int), .slice q x.h.length c, .slice q2 x.r.length c2, .bool x.d]] W0 fun e w' => e = .returned (.int .i64 0) ∧ Below W0.heap.size W0 w') := by have := refCheckIn_any _ x K W0 hr0 hbK0; rw [hin] at this; exact this
  have C2 : Hid (∀ V, Below W0.heap.size W0 V → Calls Try.prog 17 #[.agg #[.int .u64 (x.m.qb : Int), .int .u64 (x.m.qn : Int), .int .i64 x.m.at_, .int .i64 x.m.fr, .int .i64 x.m.tq, .int .u64 (x.n : Int), .slice q x.h.length c, .slice q2 x.r.length c2, .bool x.d]] V fun e w' => ∃ p1 r1 p2 r2, e = .returned (.agg #[.int .u64 (x.m.qb : Int), .int .u64 (x.m.qn : Int), .int .i64 x.m.at_, .int .i64 x.m.fr, .int .i64 x.m.tq, .int .u64 (x.n : Int), .slice p1 x.h.length r1, .slice p2 x.r.length r2, .bool x.d]) ∧ OwnI (fun b => b < w'.heap.size) V.heap.size w' (.slice p1 x.h.length r1) (.slice p2 x.r.length r2) x.h x.r ∧ Below V.heap.size V w') := fun V hb => copyInO K V _ x (mIn _ _ _ _ _ _ (fun _ h => h) (kept_of hbK0 hb) hr0) (fun b h => Nat.lt_of_lt_of_le (hbK0 b h) hb.size)
  have HR : Hid (∀ V, Below W0.heap.size W0 V → V.rangeAt w.heap.size 0 [.int .u64 (x.m.qb : Int), .int .u64 (x.m.qn : Int), .int .i64 x.m.at_, .int .i64 x.m.fr, .int .i64 x.m.tq, .int .u64 (x.n : Int), .slice q x.h.length c, .slice q2 x.r.length c2, .bool x.d]) := fun V hb j u hu => by rw [Nat.zero_add]; exact cell_of_row ((hb.block _ (by omega)).trans g0) (by simpa using hu)
  have HRZ := hid (HR.out W0 (Below.refl _ _))
  have HG0 : Hid (W0.heap[w.heap.size]? = some (.cells #[.int .u64 (x.m.qb : Int), .int .u64 (x.m.qn : Int), .int .i64 x.m.at_, .int .i64 x.m.fr, .int .i64 x.m.tq, .int .u64 (x.n : Int), .slice q x.h.length c, .slice q2 x.r.length c2, .bool x.d] 68 (0, 0)) ∧ W0.heap[w.heap.size + 1]? = some (.cells cl.toArray 62 (0, 0)) ∧ W0.heap[w.heap.size + 1 + 1]? = some (.cells #[.int .u64 0, .int .u64 0, .int .i64 0, .int .i64 0, .int .i64 0, .int .u64 0, .slice none 0 0, .slice none 0 0, .bool false] 68 (0, 0)) ∧ Below w.heap.size w W0 ∧ W0.heap.size = w.heap.size + 3) := ⟨g0, g1, g2, hb0, hs0⟩
  have HMS : Hid (rMs K w cl y) := h'
  have HLM : Hid (ListIs rRow 1 24 K w (.slice qm y.r.length cm) y.r) := hlm
  have HKK : Hid (∀ b, K b → b < w.heap.size) := hK
  have SZM : Hid ((Try.prog.info? 62).map (·.size) = some cl.length) := by show _ = _; rw [hlen]; exact sz_Msg
  have HOK : Hid (okS x.m) := hok
  have HM : Hid (y.k < 256) := hk256
  have HNS : Hid (x.n ≤ 512 ∧ x.r.length ≤ 8 * x.n ∧ x.h.length ≤ 3 ∧ (∀ b ∈ x.h, b.r.length ≤ 8) ∧ y.s < 18446744073709551616) := ⟨i1, i2, hh3, hrow, hs64⟩
  have HCL : Hid (cl[0]? = some (.int .u8 (y.k : Int)) ∧ cl[2]? = some (.int .u64 (y.m.qb : Int)) ∧ cl[3]? = some (.int .u64 (y.m.qn : Int)) ∧ cl[4]? = some (.int .i64 y.m.at_) ∧ cl[5]? = some (.int .i64 y.m.fr) ∧ cl[6]? = some (.int .i64 y.m.tq) ∧ cl[37]? = some (.int .u64 (y.s : Int)) ∧ cl[38]? = some (.bool y.l) ∧ cl[39]? = some (.slice qm y.r.length cm)) := ⟨k0, k2, k3, k4, k5, k6, k37, k38, k39⟩
  clear h hin h' hk256 hK i1 i2 i3 i4 hh3 hrow hl hcap hby hl2 hcap2 hby2 hok hn64 hlm hs64 hokm hb0 hs0 g0 g1 g2 hlen k0 k2 k3 k4 k5 k6 k37 k38 k39 hbK0 hr0
  go_enter Try.func19, Try.ntmps19
  go_wp2_with (refine wpList_load_mid rfl 68 _ rfl w.heap.size 0 rfl _ _ HRZ.out Try.underlying68 rfl sz_In ?_)
  refine C1.out.mono ?_
  rintro e w1 ⟨rfl, hb1⟩
  have HR1 := hid (HR.out w1 hb1)
  have CC2 := hid (C2.out w1 hb1)
  have HB1 : Hid (Below W0.heap.size W0 w1) := hb1
  clear hb1 C1 HRZ hW0 C2 HR
  go_wp2_with (refine wpList_load_mid rfl 68 _ rfl w.heap.size 0 rfl _ _ HR1.out Try.underlying68 rfl sz_In ?_)
  refine CC2.out.mono ?_
  rintro e w2 ⟨p1, r1, p2, r2, rfl, hI2, hb2⟩
  obtain ⟨g0, g1, g2, hb0, hs0⟩ := HG0.out
  have hB2 : Below W0.heap.size W0 w2 := HB1.out.trans (hb2.mono HB1.out.size)
  have hgB : w2.heap[w.heap.size]? = some (.cells #[.int .u64 (x.m.qb : Int), .int .u64 (x.m.qn : Int), .int .i64 x.m.at_, .int .i64 x.m.fr, .int .i64 x.m.tq, .int .u64 (x.n : Int), .slice q x.h.length c, .slice q2 x.r.length c2, .bool x.d] 68 (0, 0)) := (hB2.block _ (by omega)).trans g0
  obtain ⟨hth, W3, hW3, _, hs3, hk3⟩ := put_row w2 w.heap.size _ 68 hgB [.int .u64 (x.m.qb : Int), .int .u64 (x.m.qn : Int), .int .i64 x.m.at_, .int .i64 x.m.fr, .int .i64 x.m.tq, .int .u64 (x.n : Int), .slice p1 x.h.length r1, .slice p2 x.r.length r2, .bool x.d] rfl Try.underlying68 rfl sz_In
  have hg3 : W3.heap[w.heap.size]? = some (.cells #[.int .u64 (x.m.qb : Int), .int .u64 (x.m.qn : Int), .int .i64 x.m.at_, .int .i64 x.m.fr, .int .i64 x.m.tq, .int .u64 (x.n : Int), .slice p1 x.h.length r1, .slice p2 x.r.length r2, .bool x.d] 68 (0, 0)) := by rw [← hW3]; exact box_full w2 w.heap.size _ 68 hgB [.int .u64 (x.m.qb : Int), .int .u64 (x.m.qn : Int), .int .i64 x.m.at_, .int .i64 x.m.fr, .int .i64 x.m.tq, .int .u64 (x.n : Int), .slice p1 x.h.length r1, .slice p2 x.r.length r2, .bool x.d] rfl
  have hw1 : W0.heap.size ≤ w1.heap.size := HB1.out.size
  have hI3 : OwnI (fun b => b < w2.heap.size) w1.heap.size W3 (.slice p1 x.h.length r1) (.slice p2 x.r.length r2) x.h x.r := hI2.kept (hk3.less fun b hb => by show b ≠ _; omega)
  have hb3 : Below w.heap.size w W3 := by
    have hb := hb0.trans (hB2.mono hb0.size)
    exact ⟨hk3.os.trans hb.os, hk3.tape.trans hb.tape, hk3.output.trans hb.output, by have := hb.size; omega, fun b h => (hk3.block b (by show b ≠ _; omega)).trans (hb.block b h)⟩
  have HZ1 : Hid (w.heap.size + 3 ≤ w1.heap.size ∧ w1.heap.size ≤ w2.heap.size) := ⟨by omega, hb2.size⟩
  have HLH : Hid (∀ V, OwnI (fun b => b < w2.heap.size) w1.heap.size V (.slice p1 x.h.length r1) (.slice p2 x.r.length r2) x.h x.r → rIn (From w1.heap.size V) V [.int .u64 (x.m.qb : Int), .int .u64 (x.m.qn : Int), .int .i64 x.m.at_, .int .i64 x.m.fr, .int .i64 x.m.tq, .int .u64 (x.n : Int), .slice p1 x.h.length r1, .slice p2 x.r.length r2, .bool x.d] x) := fun V hv => by
    obtain ⟨_, _, e1, l1⟩ := hv.held.list mBat (bytes := 40) (by have := HNS.out; omega)
    obtain ⟨_, _, e2, l2⟩ := hv.rows.list mRow (bytes := 24) (by have := HNS.out; omega)
    rw [← e1] at l1
    rw [← e2] at l2
    exact ⟨_, _, rfl, ⟨HOK.out, by have := HNS.out; omega⟩, l1, l2⟩
  have HV : Hid (∀ V, Below W3.heap.size W3 V → V.heap[w.heap.size]? = some (.cells #[.int .u64 (x.m.qb : Int), .int .u64 (x.m.qn : Int), .int .i64 x.m.at_, .int .i64 x.m.fr, .int .i64 x.m.tq, .int .u64 (x.n : Int), .slice p1 x.h.length r1, .slice p2 x.r.length r2, .bool x.d] 68 (0, 0)) ∧ V.rangeAt (w.heap.size + 1) 0 cl ∧ V.heap[w.heap.size + 1 + 1]? = some (.cells #[.int .u64 0, .int .u64 0, .int .i64 0, .int .i64 0, .int .i64 0, .int .u64 0, .slice none 0 0, .slice none 0 0, .bool false] 68 (0, 0)) ∧ Below w.heap.size w V ∧ rMs K V cl y ∧ OwnI (fun b => b < w2.heap.size) w1.heap.size V (.slice p1 x.h.length r1) (.slice p2 x.r.length r2) x.h x.r ∧ (∀ b, K b → b < V.heap.size) ∧ ListIs rRow 1 24 K V (.slice qm y.r.length cm) y.r ∧ w2.heap.size ≤ V.heap.size) := fun V hb => by
    have hbw := hb3.trans (hb.mono hb3.size)
    have hkk := kept_of HKK.out hbw
    have hm3 : V.heap[w.heap.size + 1]? = some (.cells cl.toArray 62 (0, 0)) := (hb.block _ (by have := hB2.size; omega)).trans ((hk3.block _ (by show _ ≠ _; omega)).trans ((hB2.block _ (by omega)).trans g1))
    exact ⟨(hb.block _ (Array.getElem?_eq_some_iff.1 hg3).1).trans hg3, fun j u hu => by rw [Nat.zero_add]; exact cell_of_row hm3 (by simpa using hu), (hb.block _ (by have := hB2.size; omega)).trans ((hk3.block _ (by show _ ≠ _; omega)).trans ((hB2.block _ (by omega)).trans g2)), hbw, mMs _ _ _ _ _ _ (fun _ h => h) hkk HMS.out, hI3.below hb, fun b h => Nat.lt_of_lt_of_le (HKK.out b h) hbw.size, HLM.out.mono mRow (fun _ h => h) hkk, by have := hb.size; omega⟩
  have HTH : Hid (w2.there w.heap.size 0 9) := hth
  have HW3 : Hid (w2.setCells w.heap.size 0 (#[.int .u64 (x.m.qb : Int), .int .u64 (x.m.qn : Int), .int .i64 x.m.at_, .int .i64 x.m.fr, .int .i64 x.m.tq, .int .u64 (x.n : Int), .slice p1 x.h.length r1, .slice p2 x.r.length r2, .bool x.d] : Array Value).toList = W3) := hW3
  have HON : Hid ((#[.int .u64 (x.m.qb : Int), .int .u64 (x.m.qn : Int), .int .i64 x.m.at_, .int .i64 x.m.fr, .int .i64 x.m.tq, .int .u64 (x.n : Int), .slice p1 x.h.length r1, .slice p2 x.r.length r2, .bool x.d] : Array Value).all (·.oneCell') = true) := by show _ = _; simp [Value.oneCell']
  have CTW : Hid (∀ V, Below W3.heap.size W3 V → Calls Try.prog 41 #[.agg #[.int .u64 (x.m.qb : Int), .int .u64 (x.m.qn : Int), .int .i64 x.m.at_, .int .i64 x.m.fr, .int .i64 x.m.tq, .int .u64 (x.n : Int), .slice p1 x.h.length r1, .slice p2 x.r.length r2, .bool x.d], .agg cl.toArray] V fun e w' => e = .returned (.bool (x.h.any (isS y.s) || (x.d || decide (y.s < x.n)))) ∧ Below V.heap.size V w') := fun V hb => by
    obtain ⟨v1, v2, v3, v4, v5, v6, v7, v8, v9⟩ := HV.out V hb
    exact refTwice_any _ _ x y (fun b => b < V.heap.size) V (mIn _ _ _ _ _ _ (fun b hb => hb.2) ⟨rfl, rfl, rfl, Nat.le_refl _, fun _ _ => rfl⟩ (HLH.out V v6)) (mMs _ _ _ _ _ _ v7 ⟨rfl, rfl, rfl, Nat.le_refl _, fun _ _ => rfl⟩ v5) (fun b hb => hb)
  have CST : Hid (∀ V, Below W3.heap.size W3 V → Calls Try.prog 42 #[.agg #[.int .u64 (x.m.qb : Int), .int .u64 (x.m.qn : Int), .int .i64 x.m.at_, .int .i64 x.m.fr, .int .i64 x.m.tq, .int .u64 (x.n : Int), .slice p1 x.h.length r1, .slice p2 x.r.length r2, .bool x.d], .agg cl.toArray] V fun e w' => e = .returned (.bool (x.h.any (overS y.s y.l))) ∧ Below V.heap.size V w') := fun V hb => by
    obtain ⟨v1, v2, v3, v4, v5, v6, v7, v8, v9⟩ := HV.out V hb
    exact refStale_any _ _ x y (fun b => b < V.heap.size) V (mIn _ _ _ _ _ _ (fun b hb => hb.2) ⟨rfl, rfl, rfl, Nat.le_refl _, fun _ _ => rfl⟩ (HLH.out V v6)) (mMs _ _ _ _ _ _ v7 ⟨rfl, rfl, rfl, Nat.le_refl _, fun _ _ => rfl⟩ v5) (fun b hb => hb)
  have HCM : Hid (∀ V : World, V.rangeAt (w.heap.size + 1) 0 cl → V.cell? ⟨w.heap.size + 1, 0, none⟩ = some (.int .u8 (y.k : Int)) ∧ V.cell? ⟨w.heap.size + 1, 2, none⟩ = some (.int .u64 (y.m.qb : Int)) ∧ V.cell? ⟨w.heap.size + 1, 3, none⟩ = some (.int .u64 (y.m.qn : Int)) ∧ V.cell? ⟨w.heap.size + 1, 4, none⟩ = some (.int .i64 y.m.at_) ∧ V.cell? ⟨w.heap.size + 1, 5, none⟩ = some (.int .i64 y.m.fr) ∧ V.cell? ⟨w.heap.size + 1, 6, none⟩ = some (.int .i64 y.m.tq) ∧ V.cell? ⟨w.heap.size + 1, 37, none⟩ = some (.int .u64 (y.s : Int)) ∧ V.cell? ⟨w.heap.size + 1, 38, none⟩ = some (.bool y.l) ∧ V.cell? ⟨w.heap.size + 1, 39, none⟩ = some (.slice qm y.r.length cm)) := fun V hv => by
    obtain ⟨k0, k2, k3, k4, k5, k6, k37, k38, k39⟩ := HCL.out
    have f : ∀ (k : Nat) (u : Value), cl[k]? = some u → V.cell? ⟨w.heap.size + 1, k, none⟩ = some u := fun k u hu => by have := hv k u hu; rwa [Nat.zero_add] at this
    exact ⟨f _ _ k0, f _ _ k2, f _ _ k3, f _ _ k4, f _ _ k5, f _ _ k6, f _ _ k37, f _ _ k38, f _ _ k39⟩
  obtain ⟨v1, v2, v3, v4, v5, v6, v7, v8, v9⟩ := HV.out W3 (Below.refl _ _)
  obtain ⟨m0, m2, m3, m4, m5, m6, m37, m38, m39⟩ := HCM.out W3 v2
  have a0 := cell_of_row (k := 0) (v := .int .u64 (x.m.qb : Int)) v1 rfl
  have a1 := cell_of_row (k := 1) (v := .int .u64 (x.m.qn : Int)) v1 rfl
  have a2 := cell_of_row (k := 2) (v := .int .i64 x.m.at_) v1 rfl
  have a3 := cell_of_row (k := 3) (v := .int .i64 x.m.fr) v1 rfl
  have a4 := cell_of_row (k := 4) (v := .int .i64 x.m.tq) v1 rfl
  have a5 := cell_of_row (k := 5) (v := .int .u64 (x.n : Int)) v1 rfl
  have e8 : y.r.length ≤ 140737488355328 := by obtain ⟨_, _, _, h9, _⟩ := v8; omega
  clear g0 g1 g2 hb0 hs0 hB2 hgB hth hW3 hs3 hk3 hg3 hw1 hI3 hb3 hI2 hb2 CC2 HB1 HR1 HG0 HMS HLM
  by_cases hk4 : y.k = 4
  · have t0 : ((y.k : Int) != 4) = false := by rw [hk4]; rfl
    cases hsm : sameS y.m x.m with
    | false =>
      have NE := fun w => neq_strmG y.m x.m w hsm
      have t0d : (y.k != 4) = false := by rw [hk4]; rfl
      have HER : Hid (refG x y = 5) := by show _ = _; unfold refG; rw [if_neg (by simpa using hk4), if_pos hsm]
      have HTP : Hid (takeG x y = x) := by show _ = _; unfold takeG; rw [if_neg (by rw [HER.out]; decide)]
      obtain ⟨hth8, X8, hX8, hld8, hsX8, hkX8⟩ := put_row W3 (w.heap.size + 1 + 1) _ 68 v3 [.int .u64 (x.m.qb : Int), .int .u64 (x.m.qn : Int), .int .i64 x.m.at_, .int .i64 x.m.fr, .int .i64 x.m.tq, .int .u64 (x.n : Int), .slice p1 x.h.length r1, .slice p2 x.r.length r2, .bool x.d] rfl Try.underlying68 rfl sz_In
      have HTK : Hid (TakR w 5 x (.returned (.tuple #[.agg #[.int .u64 (x.m.qb : Int), .int .u64 (x.m.qn : Int), .int .i64 x.m.at_, .int .i64 x.m.fr, .int .i64 x.m.tq, .int .u64 (x.n : Int), .slice p1 x.h.length r1, .slice p2 x.r.length r2, .bool x.d], .int .i64 5])) X8) := by
        refine ⟨[.int .u64 (x.m.qb : Int), .int .u64 (x.m.qn : Int), .int .i64 x.m.at_, .int .i64 x.m.fr, .int .i64 x.m.tq, .int .u64 (x.n : Int), .slice p1 x.h.length r1, .slice p2 x.r.length r2, .bool x.d], rfl, mIn _ _ _ _ _ _ (fun b hb => ⟨by have := hb.1; have := HZ1.out; omega, by have := hb.2; omega⟩) (hkX8.less fun b hb => by have := hb.1; have := HZ1.out; show b ≠ _; omega) (HLH.out W3 v6), ⟨hkX8.os.trans v4.os, hkX8.tape.trans v4.tape, hkX8.output.trans v4.output, by have := v4.size; omega, fun b hb => (hkX8.block b (by show b ≠ _; omega)).trans (v4.block b hb)⟩⟩
      have HR8 : Hid (W3.rangeAt w.heap.size 0 [.int .u64 (x.m.qb : Int), .int .u64 (x.m.qn : Int), .int .i64 x.m.at_, .int .i64 x.m.fr, .int .i64 x.m.tq, .int .u64 (x.n : Int), .slice p1 x.h.length r1, .slice p2 x.r.length r2, .bool x.d]) := fun j u hu => by rw [Nat.zero_add]; exact cell_of_row v1 (by simpa using hu)
      have HT8 : Hid (W3.there (w.heap.size + 1 + 1) 0 9) := hth8
      have HX8 : Hid (W3.setCells (w.heap.size + 1 + 1) 0 (#[.int .u64 (x.m.qb : Int), .int .u64 (x.m.qn : Int), .int .i64 x.m.at_, .int .i64 x.m.fr, .int .i64 x.m.tq, .int .u64 (x.n : Int), .slice p1 x.h.length r1, .slice p2 x.r.length r2, .bool x.d] : Array Value).toList = X8) := hX8
      have HL8 : Hid ((loadVar 68 ⟨w.heap.size + 1 + 1, 0, none⟩).run Try.prog X8 = .ok (.agg #[.int .u64 (x.m.qb : Int), .int .u64 (x.m.qn : Int), .int .i64 x.m.at_, .int .i64 x.m.fr, .int .i64 x.m.tq, .int .u64 (x.n : Int), .slice p1 x.h.length r1, .slice p2 x.r.length r2, .bool x.d]) X8) := hld8
      clear hk4 hsm v1 v2 v3 v4 v5 v6 v7 v8 v9 hth8 hX8 hld8 hsX8 hkX8
      go_wp2_with (first | (refine wpList_store_mid rfl 68 _ _ rfl w.heap.size 0 #[.int .u64 (x.m.qb : Int), .int .u64 (x.m.qn : Int), .int .i64 x.m.at_, .int .i64 x.m.fr, .int .i64 x.m.tq, .int .u64 (x.n : Int), .slice p1 x.h.length r1, .slice p2 x.r.length r2, .bool x.d] rfl rfl HTH.out sz_In HON.out ?_; rw [HW3.out]) | (refine wpList_load_mid rfl 68 _ rfl w.heap.size 0 rfl _ _ HR8.out Try.underlying68 rfl sz_In ?_) | (refine wpList_store_mid rfl 68 _ _ rfl (w.heap.size + 1 + 1) 0 #[.int .u64 (x.m.qb : Int), .int .u64 (x.m.qn : Int), .int .i64 x.m.at_, .int .i64 x.m.fr, .int .i64 x.m.tq, .int .u64 (x.n : Int), .slice p1 x.h.length r1, .slice p2 x.r.length r2, .bool x.d] rfl rfl HT8.out sz_In HON.out ?_; rw [HX8.out]))
      refine bodyPost_ret (v := .tuple #[.agg #[.int .u64 (x.m.qb : Int), .int .u64 (x.m.qn : Int), .int .i64 x.m.at_, .int .i64 x.m.fr, .int .i64 x.m.tq, .int .u64 (x.n : Int), .slice p1 x.h.length r1, .slice p2 x.r.length r2, .bool x.d], .int .i64 5]) (by simp only [results, Try.results19]; simp [asAddr, Act.put, HL8.out]) rfl ?_
      rw [HTP.out, HER.out]
      exact HTK.out
    | true =>
      have hmm := sameS_eq hsm
      rw [hmm] at m2 m3 m4 m5 m6
      have NE := neq_strm (x.m.qb : Int) (x.m.qn : Int) x.m.at_ x.m.fr x.m.tq
      by_cases hr : 8 < y.r.length
      · have y8 : (8 : Int) < (y.r.length : Int) := by omega
        have HER : Hid (refG x y = 5) := by show _ = _; unfold refG; rw [if_neg (by simpa using hk4), if_neg (by rw [hsm]; simp), if_pos hr]
        have HTP : Hid (takeG x y = x) := by show _ = _; unfold takeG; rw [if_neg (by rw [HER.out]; decide)]
        obtain ⟨hth8, X8, hX8, hld8, hsX8, hkX8⟩ := put_row W3 (w.heap.size + 1 + 1) _ 68 v3 [.int .u64 (x.m.qb : Int), .int .u64 (x.m.qn : Int), .int .i64 x.m.at_, .int .i64 x.m.fr, .int .i64 x.m.tq, .int .u64 (x.n : Int), .slice p1 x.h.length r1, .slice p2 x.r.length r2, .bool x.d] rfl Try.underlying68 rfl sz_In
        have HTK : Hid (TakR w 5 x (.returned (.tuple #[.agg #[.int .u64 (x.m.qb : Int), .int .u64 (x.m.qn : Int), .int .i64 x.m.at_, .int .i64 x.m.fr, .int .i64 x.m.tq, .int .u64 (x.n : Int), .slice p1 x.h.length r1, .slice p2 x.r.length r2, .bool x.d], .int .i64 5])) X8) := by
          refine ⟨[.int .u64 (x.m.qb : Int), .int .u64 (x.m.qn : Int), .int .i64 x.m.at_, .int .i64 x.m.fr, .int .i64 x.m.tq, .int .u64 (x.n : Int), .slice p1 x.h.length r1, .slice p2 x.r.length r2, .bool x.d], rfl, mIn _ _ _ _ _ _ (fun b hb => ⟨by have := hb.1; have := HZ1.out; omega, by have := hb.2; omega⟩) (hkX8.less fun b hb => by have := hb.1; have := HZ1.out; show b ≠ _; omega) (HLH.out W3 v6), ⟨hkX8.os.trans v4.os, hkX8.tape.trans v4.tape, hkX8.output.trans v4.output, by have := v4.size; omega, fun b hb => (hkX8.block b (by show b ≠ _; omega)).trans (v4.block b hb)⟩⟩
        have HR8 : Hid (W3.rangeAt w.heap.size 0 [.int .u64 (x.m.qb : Int), .int .u64 (x.m.qn : Int), .int .i64 x.m.at_, .int .i64 x.m.fr, .int .i64 x.m.tq, .int .u64 (x.n : Int), .slice p1 x.h.length r1, .slice p2 x.r.length r2, .bool x.d]) := fun j u hu => by rw [Nat.zero_add]; exact cell_of_row v1 (by simpa using hu)
        have HT8 : Hid (W3.there (w.heap.size + 1 + 1) 0 9) := hth8
        have HX8 : Hid (W3.setCells (w.heap.size + 1 + 1) 0 (#[.int .u64 (x.m.qb : Int), .int .u64 (x.m.qn : Int), .int .i64 x.m.at_, .int .i64 x.m.fr, .int .i64 x.m.tq, .int .u64 (x.n : Int), .slice p1 x.h.length r1, .slice p2 x.r.length r2, .bool x.d] : Array Value).toList = X8) := hX8
        have HL8 : Hid ((loadVar 68 ⟨w.heap.size + 1 + 1, 0, none⟩).run Try.prog X8 = .ok (.agg #[.int .u64 (x.m.qb : Int), .int .u64 (x.m.qn : Int), .int .i64 x.m.at_, .int .i64 x.m.fr, .int .i64 x.m.tq, .int .u64 (x.n : Int), .slice p1 x.h.length r1, .slice p2 x.r.length r2, .bool x.d]) X8) := hld8
        clear hk4 hsm hmm v1 v2 v3 v4 v5 v6 v7 v8 v9 hth8 hX8 hld8 hsX8 hkX8
        go_wp2_with (first | (refine wpList_store_mid rfl 68 _ _ rfl w.heap.size 0 #[.int .u64 (x.m.qb : Int), .int .u64 (x.m.qn : Int), .int .i64 x.m.at_, .int .i64 x.m.fr, .int .i64 x.m.tq, .int .u64 (x.n : Int), .slice p1 x.h.length r1, .slice p2 x.r.length r2, .bool x.d] rfl rfl HTH.out sz_In HON.out ?_; rw [HW3.out]) | (refine wpList_load_mid rfl 68 _ rfl w.heap.size 0 rfl _ _ HR8.out Try.underlying68 rfl sz_In ?_) | (refine wpList_store_mid rfl 68 _ _ rfl (w.heap.size + 1 + 1) 0 #[.int .u64 (x.m.qb : Int), .int .u64 (x.m.qn : Int), .int .i64 x.m.at_, .int .i64 x.m.fr, .int .i64 x.m.tq, .int .u64 (x.n : Int), .slice p1 x.h.length r1, .slice p2 x.r.length r2, .bool x.d] rfl rfl HT8.out sz_In HON.out ?_; rw [HX8.out]))
        refine bodyPost_ret (v := .tuple #[.agg #[.int .u64 (x.m.qb : Int), .int .u64 (x.m.qn : Int), .int .i64 x.m.at_, .int .i64 x.m.fr, .int .i64 x.m.tq, .int .u64 (x.n : Int), .slice p1 x.h.length r1, .slice p2 x.r.length r2, .bool x.d], .int .i64 5]) (by simp only [results, Try.results19]; simp [asAddr, Act.put, HL8.out]) rfl ?_
        rw [HTP.out, HER.out]
        exact HTK.out
      · have y8 : ¬ (8 : Int) < (y.r.length : Int) := by omega
        have y8n : ¬ 8 < y.r.length := hr
        have HRG : Hid (refG x y = refE x y.mg) := refG_good hk4 hsm hr
        have HY8 : Hid (y.r.length ≤ 8) := by show _ ≤ _; omega
        obtain ⟨T, hT⟩ : ∃ T, (x.h.any (isS y.s) || (x.d || decide (y.s < x.n))) = T := ⟨_, rfl⟩
        have HT : Hid ((x.h.any (isS y.s) || (x.d || decide (y.s < x.n))) = T) := hT
        have CC3 : Hid (Calls Try.prog 41 #[.agg #[.int .u64 (x.m.qb : Int), .int .u64 (x.m.qn : Int), .int .i64 x.m.at_, .int .i64 x.m.fr, .int .i64 x.m.tq, .int .u64 (x.n : Int), .slice p1 x.h.length r1, .slice p2 x.r.length r2, .bool x.d], .agg cl.toArray] W3 fun e w' => e = .returned (.bool T) ∧ Below W3.heap.size W3 w') := by have := CTW.out W3 (Below.refl _ _); rw [hT] at this; exact this
        have HR3 : Hid (W3.rangeAt w.heap.size 0 [.int .u64 (x.m.qb : Int), .int .u64 (x.m.qn : Int), .int .i64 x.m.at_, .int .i64 x.m.fr, .int .i64 x.m.tq, .int .u64 (x.n : Int), .slice p1 x.h.length r1, .slice p2 x.r.length r2, .bool x.d]) := fun j u hu => by rw [Nat.zero_add]; exact cell_of_row v1 (by simpa using hu)
        have HRM3 : Hid (W3.rangeAt (w.heap.size + 1) 0 cl) := v2
        clear hk4 hsm hmm hr hT CTW v1 v2 v3 v4 v5 v6 v7 v8 v9
        go_wp2_with (first | (refine wpList_store_mid rfl 68 _ _ rfl w.heap.size 0 #[.int .u64 (x.m.qb : Int), .int .u64 (x.m.qn : Int), .int .i64 x.m.at_, .int .i64 x.m.fr, .int .i64 x.m.tq, .int .u64 (x.n : Int), .slice p1 x.h.length r1, .slice p2 x.r.length r2, .bool x.d] rfl rfl HTH.out sz_In HON.out ?_; rw [HW3.out]) | (refine wpList_load_mid rfl 68 _ rfl w.heap.size 0 rfl _ _ HR3.out Try.underlying68 rfl sz_In ?_) | (refine wpList_load_mid rfl 62 _ rfl (w.heap.size + 1) 0 rfl _ _ HRM3.out Try.underlying62 rfl SZM.out ?_))
        refine CC3.out.mono ?_
        rintro e w4 ⟨rfl, hb4⟩
        have HB4 : Hid (Below W3.heap.size W3 w4) := hb4
        obtain ⟨v1, v2, v3, v4, v5, v6, v7, v8, v9⟩ := HV.out w4 hb4
        clear m0 m2 m3 m4 m5 m6 m37 m38 m39 a0 a1 a2 a3 a4 a5 NE t0 y8 HR3 HRM3 CC3 HTH HW3
        obtain ⟨m0, m2, m3, m4, m5, m6, m37, m38, m39⟩ := HCM.out w4 v2
        have a5 := cell_of_row (k := 5) (v := .int .u64 (x.n : Int)) v1 rfl
        clear m0 m2 m3 m4 m5 m6 m38 m39
        cases T with
        | true =>
          have HER : Hid (refG x y = 15) := by
            show _ = _
            rw [HRG.out]
            have ht := HT.out
            simp only [Bool.or_eq_true, decide_eq_true_eq] at ht
            unfold refE
            split
            · rfl
            · split
              · rfl
              · split
                · rfl
                · rename_i h1 h2 h3
                  rcases ht with h | h | h
                  · exact absurd h h3
                  · exact absurd h h1
                  · exact absurd h h2
          have HTP : Hid (takeG x y = x) := by show _ = _; unfold takeG; rw [if_neg (by rw [HER.out]; decide)]
          obtain ⟨hth8, X8, hX8, hld8, hsX8, hkX8⟩ := put_row w4 (w.heap.size + 1 + 1) _ 68 v3 [.int .u64 (x.m.qb : Int), .int .u64 (x.m.qn : Int), .int .i64 x.m.at_, .int .i64 x.m.fr, .int .i64 x.m.tq, .int .u64 (x.n : Int), .slice p1 x.h.length r1, .slice p2 x.r.length r2, .bool x.d] rfl Try.underlying68 rfl sz_In
          have HTK : Hid (TakR w 15 x (.returned (.tuple #[.agg #[.int .u64 (x.m.qb : Int), .int .u64 (x.m.qn : Int), .int .i64 x.m.at_, .int .i64 x.m.fr, .int .i64 x.m.tq, .int .u64 (x.n : Int), .slice p1 x.h.length r1, .slice p2 x.r.length r2, .bool x.d], .int .i64 15])) X8) := by
            refine ⟨[.int .u64 (x.m.qb : Int), .int .u64 (x.m.qn : Int), .int .i64 x.m.at_, .int .i64 x.m.fr, .int .i64 x.m.tq, .int .u64 (x.n : Int), .slice p1 x.h.length r1, .slice p2 x.r.length r2, .bool x.d], rfl, mIn _ _ _ _ _ _ (fun b hb => ⟨by have := hb.1; have := HZ1.out; omega, by have := hb.2; omega⟩) (hkX8.less fun b hb => by have := hb.1; have := HZ1.out; show b ≠ _; omega) (HLH.out w4 v6), ⟨hkX8.os.trans v4.os, hkX8.tape.trans v4.tape, hkX8.output.trans v4.output, by have := v4.size; omega, fun b hb => (hkX8.block b (by show b ≠ _; omega)).trans (v4.block b hb)⟩⟩
          have HR8 : Hid (w4.rangeAt w.heap.size 0 [.int .u64 (x.m.qb : Int), .int .u64 (x.m.qn : Int), .int .i64 x.m.at_, .int .i64 x.m.fr, .int .i64 x.m.tq, .int .u64 (x.n : Int), .slice p1 x.h.length r1, .slice p2 x.r.length r2, .bool x.d]) := fun j u hu => by rw [Nat.zero_add]; exact cell_of_row v1 (by simpa using hu)
          have HT8 : Hid (w4.there (w.heap.size + 1 + 1) 0 9) := hth8
          have HX8 : Hid (w4.setCells (w.heap.size + 1 + 1) 0 (#[.int .u64 (x.m.qb : Int), .int .u64 (x.m.qn : Int), .int .i64 x.m.at_, .int .i64 x.m.fr, .int .i64 x.m.tq, .int .u64 (x.n : Int), .slice p1 x.h.length r1, .slice p2 x.r.length r2, .bool x.d] : Array Value).toList = X8) := hX8
          have HL8 : Hid ((loadVar 68 ⟨w.heap.size + 1 + 1, 0, none⟩).run Try.prog X8 = .ok (.agg #[.int .u64 (x.m.qb : Int), .int .u64 (x.m.qn : Int), .int .i64 x.m.at_, .int .i64 x.m.fr, .int .i64 x.m.tq, .int .u64 (x.n : Int), .slice p1 x.h.length r1, .slice p2 x.r.length r2, .bool x.d]) X8) := hld8
          clear hb4 v1 v2 v3 v4 v5 v6 v7 v8 v9 hth8 hX8 hld8 hsX8 hkX8
          go_wp2_with (first | (refine wpList_load_mid rfl 68 _ rfl w.heap.size 0 rfl _ _ HR8.out Try.underlying68 rfl sz_In ?_) | (refine wpList_store_mid rfl 68 _ _ rfl (w.heap.size + 1 + 1) 0 #[.int .u64 (x.m.qb : Int), .int .u64 (x.m.qn : Int), .int .i64 x.m.at_, .int .i64 x.m.fr, .int .i64 x.m.tq, .int .u64 (x.n : Int), .slice p1 x.h.length r1, .slice p2 x.r.length r2, .bool x.d] rfl rfl HT8.out sz_In HON.out ?_; rw [HX8.out]))
          refine bodyPost_ret (v := .tuple #[.agg #[.int .u64 (x.m.qb : Int), .int .u64 (x.m.qn : Int), .int .i64 x.m.at_, .int .i64 x.m.fr, .int .i64 x.m.tq, .int .u64 (x.n : Int), .slice p1 x.h.length r1, .slice p2 x.r.length r2, .bool x.d], .int .i64 15]) (by simp only [results, Try.results19]; simp [asAddr, Act.put, HL8.out]) rfl ?_
          rw [HTP.out, HER.out]
          exact HTK.out
        | false =>
          have hTF : (x.h.any (isS y.s) = false ∧ x.d = false) ∧ ¬ y.s < x.n := by
            have ht := HT.out
            simp only [Bool.or_eq_false_iff, decide_eq_false_iff_not] at ht
            exact ⟨⟨ht.1, ht.2.1⟩, ht.2.2⟩
          have HE0 : Hid (refG x y = if x.n + 4 ≤ y.s then 2 else if 512 ≤ y.s then 2 else if x.h.any (overS y.s y.l) = true then 17 else 0) := by
            show _ = _
            rw [HRG.out]
            unfold refE
            rw [if_neg (by rw [hTF.1.2]; simp), if_neg (show ¬ y.mg.s < x.n from hTF.2), if_neg (by rw [show x.h.any (isS y.mg.s) = false from hTF.1.1]; simp)]
            rfl
          have hsn : x.n ≤ y.s := by have := hTF.2; omega
          have hn5 : x.n ≤ 512 := HNS.out.1
          have hs64 : y.s < 18446744073709551616 := HNS.out.2.2.2.2
          have ywr : IntKind.u64.wrap ((y.s : Int) - (x.n : Int)) = (y.s : Int) - (x.n : Int) := by rw [IntKind.wrap_u64]; omega
          have ym : ((y.s : Int) - (x.n : Int)) % 18446744073709551616 = (y.s : Int) - (x.n : Int) := by omega
          clear hTF HT
          by_cases h4 : x.n + 4 ≤ y.s
          · have y4 : (4 : Int) ≤ (y.s : Int) - (x.n : Int) := by omega
            have y4d : decide ((4 : Int) ≤ (y.s : Int) - (x.n : Int)) = true := decide_eq_true y4
            have HER : Hid (refG x y = 2) := by show _ = _; rw [HE0.out, if_pos h4]
            have HTP : Hid (takeG x y = x) := by show _ = _; unfold takeG; rw [if_neg (by rw [HER.out]; decide)]
            obtain ⟨hth8, X8, hX8, hld8, hsX8, hkX8⟩ := put_row w4 (w.heap.size + 1 + 1) _ 68 v3 [.int .u64 (x.m.qb : Int), .int .u64 (x.m.qn : Int), .int .i64 x.m.at_, .int .i64 x.m.fr, .int .i64 x.m.tq, .int .u64 (x.n : Int), .slice p1 x.h.length r1, .slice p2 x.r.length r2, .bool x.d] rfl Try.underlying68 rfl sz_In
            have HTK : Hid (TakR w 2 x (.returned (.tuple #[.agg #[.int .u64 (x.m.qb : Int), .int .u64 (x.m.qn : Int), .int .i64 x.m.at_, .int .i64 x.m.fr, .int .i64 x.m.tq, .int .u64 (x.n : Int), .slice p1 x.h.length r1, .slice p2 x.r.length r2, .bool x.d], .int .i64 2])) X8) := by
              refine ⟨[.int .u64 (x.m.qb : Int), .int .u64 (x.m.qn : Int), .int .i64 x.m.at_, .int .i64 x.m.fr, .int .i64 x.m.tq, .int .u64 (x.n : Int), .slice p1 x.h.length r1, .slice p2 x.r.length r2, .bool x.d], rfl, mIn _ _ _ _ _ _ (fun b hb => ⟨by have := hb.1; have := HZ1.out; omega, by have := hb.2; omega⟩) (hkX8.less fun b hb => by have := hb.1; have := HZ1.out; show b ≠ _; omega) (HLH.out w4 v6), ⟨hkX8.os.trans v4.os, hkX8.tape.trans v4.tape, hkX8.output.trans v4.output, by have := v4.size; omega, fun b hb => (hkX8.block b (by show b ≠ _; omega)).trans (v4.block b hb)⟩⟩
            have HR8 : Hid (w4.rangeAt w.heap.size 0 [.int .u64 (x.m.qb : Int), .int .u64 (x.m.qn : Int), .int .i64 x.m.at_, .int .i64 x.m.fr, .int .i64 x.m.tq, .int .u64 (x.n : Int), .slice p1 x.h.length r1, .slice p2 x.r.length r2, .bool x.d]) := fun j u hu => by rw [Nat.zero_add]; exact cell_of_row v1 (by simpa using hu)
            have HT8 : Hid (w4.there (w.heap.size + 1 + 1) 0 9) := hth8
            have HX8 : Hid (w4.setCells (w.heap.size + 1 + 1) 0 (#[.int .u64 (x.m.qb : Int), .int .u64 (x.m.qn : Int), .int .i64 x.m.at_, .int .i64 x.m.fr, .int .i64 x.m.tq, .int .u64 (x.n : Int), .slice p1 x.h.length r1, .slice p2 x.r.length r2, .bool x.d] : Array Value).toList = X8) := hX8
            have HL8 : Hid ((loadVar 68 ⟨w.heap.size + 1 + 1, 0, none⟩).run Try.prog X8 = .ok (.agg #[.int .u64 (x.m.qb : Int), .int .u64 (x.m.qn : Int), .int .i64 x.m.at_, .int .i64 x.m.fr, .int .i64 x.m.tq, .int .u64 (x.n : Int), .slice p1 x.h.length r1, .slice p2 x.r.length r2, .bool x.d]) X8) := hld8
            clear hb4 v1 v2 v3 v4 v5 v6 v7 v8 v9 hth8 hX8 hld8 hsX8 hkX8
            go_wp2_with (first | (refine wpList_load_mid rfl 68 _ rfl w.heap.size 0 rfl _ _ HR8.out Try.underlying68 rfl sz_In ?_) | (refine wpList_store_mid rfl 68 _ _ rfl (w.heap.size + 1 + 1) 0 #[.int .u64 (x.m.qb : Int), .int .u64 (x.m.qn : Int), .int .i64 x.m.at_, .int .i64 x.m.fr, .int .i64 x.m.tq, .int .u64 (x.n : Int), .slice p1 x.h.length r1, .slice p2 x.r.length r2, .bool x.d] rfl rfl HT8.out sz_In HON.out ?_; rw [HX8.out]))
            refine bodyPost_ret (v := .tuple #[.agg #[.int .u64 (x.m.qb : Int), .int .u64 (x.m.qn : Int), .int .i64 x.m.at_, .int .i64 x.m.fr, .int .i64 x.m.tq, .int .u64 (x.n : Int), .slice p1 x.h.length r1, .slice p2 x.r.length r2, .bool x.d], .int .i64 2]) (by simp only [results, Try.results19]; simp [asAddr, Act.put, HL8.out]) rfl ?_
            rw [HTP.out, HER.out]
            exact HTK.out
          · have y4 : ¬ (4 : Int) ≤ (y.s : Int) - (x.n : Int) := by omega
            have y4d : decide ((4 : Int) ≤ (y.s : Int) - (x.n : Int)) = false := decide_eq_false y4
            by_cases h5 : 512 ≤ y.s
            · have y5 : (512 : Int) ≤ (y.s : Int) := by omega
              have y5d : decide (512 ≤ y.s) = true := decide_eq_true h5
              have HER : Hid (refG x y = 2) := by show _ = _; rw [HE0.out, if_neg h4, if_pos h5]
              have HTP : Hid (takeG x y = x) := by show _ = _; unfold takeG; rw [if_neg (by rw [HER.out]; decide)]
              obtain ⟨hth8, X8, hX8, hld8, hsX8, hkX8⟩ := put_row w4 (w.heap.size + 1 + 1) _ 68 v3 [.int .u64 (x.m.qb : Int), .int .u64 (x.m.qn : Int), .int .i64 x.m.at_, .int .i64 x.m.fr, .int .i64 x.m.tq, .int .u64 (x.n : Int), .slice p1 x.h.length r1, .slice p2 x.r.length r2, .bool x.d] rfl Try.underlying68 rfl sz_In
              have HTK : Hid (TakR w 2 x (.returned (.tuple #[.agg #[.int .u64 (x.m.qb : Int), .int .u64 (x.m.qn : Int), .int .i64 x.m.at_, .int .i64 x.m.fr, .int .i64 x.m.tq, .int .u64 (x.n : Int), .slice p1 x.h.length r1, .slice p2 x.r.length r2, .bool x.d], .int .i64 2])) X8) := by
                refine ⟨[.int .u64 (x.m.qb : Int), .int .u64 (x.m.qn : Int), .int .i64 x.m.at_, .int .i64 x.m.fr, .int .i64 x.m.tq, .int .u64 (x.n : Int), .slice p1 x.h.length r1, .slice p2 x.r.length r2, .bool x.d], rfl, mIn _ _ _ _ _ _ (fun b hb => ⟨by have := hb.1; have := HZ1.out; omega, by have := hb.2; omega⟩) (hkX8.less fun b hb => by have := hb.1; have := HZ1.out; show b ≠ _; omega) (HLH.out w4 v6), ⟨hkX8.os.trans v4.os, hkX8.tape.trans v4.tape, hkX8.output.trans v4.output, by have := v4.size; omega, fun b hb => (hkX8.block b (by show b ≠ _; omega)).trans (v4.block b hb)⟩⟩
              have HR8 : Hid (w4.rangeAt w.heap.size 0 [.int .u64 (x.m.qb : Int), .int .u64 (x.m.qn : Int), .int .i64 x.m.at_, .int .i64 x.m.fr, .int .i64 x.m.tq, .int .u64 (x.n : Int), .slice p1 x.h.length r1, .slice p2 x.r.length r2, .bool x.d]) := fun j u hu => by rw [Nat.zero_add]; exact cell_of_row v1 (by simpa using hu)
              have HT8 : Hid (w4.there (w.heap.size + 1 + 1) 0 9) := hth8
              have HX8 : Hid (w4.setCells (w.heap.size + 1 + 1) 0 (#[.int .u64 (x.m.qb : Int), .int .u64 (x.m.qn : Int), .int .i64 x.m.at_, .int .i64 x.m.fr, .int .i64 x.m.tq, .int .u64 (x.n : Int), .slice p1 x.h.length r1, .slice p2 x.r.length r2, .bool x.d] : Array Value).toList = X8) := hX8
              have HL8 : Hid ((loadVar 68 ⟨w.heap.size + 1 + 1, 0, none⟩).run Try.prog X8 = .ok (.agg #[.int .u64 (x.m.qb : Int), .int .u64 (x.m.qn : Int), .int .i64 x.m.at_, .int .i64 x.m.fr, .int .i64 x.m.tq, .int .u64 (x.n : Int), .slice p1 x.h.length r1, .slice p2 x.r.length r2, .bool x.d]) X8) := hld8
              clear hb4 v1 v2 v3 v4 v5 v6 v7 v8 v9 hth8 hX8 hld8 hsX8 hkX8
              go_wp2_with (first | (refine wpList_load_mid rfl 68 _ rfl w.heap.size 0 rfl _ _ HR8.out Try.underlying68 rfl sz_In ?_) | (refine wpList_store_mid rfl 68 _ _ rfl (w.heap.size + 1 + 1) 0 #[.int .u64 (x.m.qb : Int), .int .u64 (x.m.qn : Int), .int .i64 x.m.at_, .int .i64 x.m.fr, .int .i64 x.m.tq, .int .u64 (x.n : Int), .slice p1 x.h.length r1, .slice p2 x.r.length r2, .bool x.d] rfl rfl HT8.out sz_In HON.out ?_; rw [HX8.out]))
              refine bodyPost_ret (v := .tuple #[.agg #[.int .u64 (x.m.qb : Int), .int .u64 (x.m.qn : Int), .int .i64 x.m.at_, .int .i64 x.m.fr, .int .i64 x.m.tq, .int .u64 (x.n : Int), .slice p1 x.h.length r1, .slice p2 x.r.length r2, .bool x.d], .int .i64 2]) (by simp only [results, Try.results19]; simp [asAddr, Act.put, HL8.out]) rfl ?_
              rw [HTP.out, HER.out]
              exact HTK.out
            · have y5 : ¬ (512 : Int) ≤ (y.s : Int) := by omega
              have y5d : decide (512 ≤ y.s) = false := decide_eq_false h5
              obtain ⟨S, hS⟩ : ∃ S, x.h.any (overS y.s y.l) = S := ⟨_, rfl⟩
              have HE1 : Hid (refG x y = if S = true then 17 else 0) := by show _ = _; rw [HE0.out, if_neg h4, if_neg h5, hS]
              have CC4 : Hid (Calls Try.prog 42 #[.agg #[.int .u64 (x.m.qb : Int), .int .u64 (x.m.qn : Int), .int .i64 x.m.at_, .int .i64 x.m.fr, .int .i64 x.m.tq, .int .u64 (x.n : Int), .slice p1 x.h.length r1, .slice p2 x.r.length r2, .bool x.d], .agg cl.toArray] w4 fun e w' => e = .returned (.bool S) ∧ Below w4.heap.size w4 w') := by have := CST.out w4 hb4; rw [hS] at this; exact this
              have HR4 : Hid (w4.rangeAt w.heap.size 0 [.int .u64 (x.m.qb : Int), .int .u64 (x.m.qn : Int), .int .i64 x.m.at_, .int .i64 x.m.fr, .int .i64 x.m.tq, .int .u64 (x.n : Int), .slice p1 x.h.length r1, .slice p2 x.r.length r2, .bool x.d]) := fun j u hu => by rw [Nat.zero_add]; exact cell_of_row v1 (by simpa using hu)
              have HRM4 : Hid (w4.rangeAt (w.heap.size + 1) 0 cl) := v2
              clear hS HE0 h4 h5 hb4 CST v1 v2 v3 v4 v5 v6 v7 v8 v9
              go_wp2_with (first | (refine wpList_load_mid rfl 68 _ rfl w.heap.size 0 rfl _ _ HR4.out Try.underlying68 rfl sz_In ?_) | (refine wpList_load_mid rfl 62 _ rfl (w.heap.size + 1) 0 rfl _ _ HRM4.out Try.underlying62 rfl SZM.out ?_))
              refine CC4.out.mono ?_
              rintro e w5 ⟨rfl, hb5⟩
              have hb5' : Below W3.heap.size W3 w5 := HB4.out.trans (hb5.mono HB4.out.size)
              obtain ⟨v1, v2, v3, v4, v5, v6, v7, v8, v9⟩ := HV.out w5 hb5'
              clear m37 a5 HR4 HRM4 CC4 ywr ym y4 y4d y5 y5d hb5
              cases S with
              | true =>
                have HER : Hid (refG x y = 17) := by show _ = _; rw [HE1.out]; rfl
                have HTP : Hid (takeG x y = x) := by show _ = _; unfold takeG; rw [if_neg (by rw [HER.out]; decide)]
                obtain ⟨hth8, X8, hX8, hld8, hsX8, hkX8⟩ := put_row w5 (w.heap.size + 1 + 1) _ 68 v3 [.int .u64 (x.m.qb : Int), .int .u64 (x.m.qn : Int), .int .i64 x.m.at_, .int .i64 x.m.fr, .int .i64 x.m.tq, .int .u64 (x.n : Int), .slice p1 x.h.length r1, .slice p2 x.r.length r2, .bool x.d] rfl Try.underlying68 rfl sz_In
                have HTK : Hid (TakR w 17 x (.returned (.tuple #[.agg #[.int .u64 (x.m.qb : Int), .int .u64 (x.m.qn : Int), .int .i64 x.m.at_, .int .i64 x.m.fr, .int .i64 x.m.tq, .int .u64 (x.n : Int), .slice p1 x.h.length r1, .slice p2 x.r.length r2, .bool x.d], .int .i64 17])) X8) := by
                  refine ⟨[.int .u64 (x.m.qb : Int), .int .u64 (x.m.qn : Int), .int .i64 x.m.at_, .int .i64 x.m.fr, .int .i64 x.m.tq, .int .u64 (x.n : Int), .slice p1 x.h.length r1, .slice p2 x.r.length r2, .bool x.d], rfl, mIn _ _ _ _ _ _ (fun b hb => ⟨by have := hb.1; have := HZ1.out; omega, by have := hb.2; omega⟩) (hkX8.less fun b hb => by have := hb.1; have := HZ1.out; show b ≠ _; omega) (HLH.out w5 v6), ⟨hkX8.os.trans v4.os, hkX8.tape.trans v4.tape, hkX8.output.trans v4.output, by have := v4.size; omega, fun b hb => (hkX8.block b (by show b ≠ _; omega)).trans (v4.block b hb)⟩⟩
                have HR8 : Hid (w5.rangeAt w.heap.size 0 [.int .u64 (x.m.qb : Int), .int .u64 (x.m.qn : Int), .int .i64 x.m.at_, .int .i64 x.m.fr, .int .i64 x.m.tq, .int .u64 (x.n : Int), .slice p1 x.h.length r1, .slice p2 x.r.length r2, .bool x.d]) := fun j u hu => by rw [Nat.zero_add]; exact cell_of_row v1 (by simpa using hu)
                have HT8 : Hid (w5.there (w.heap.size + 1 + 1) 0 9) := hth8
                have HX8 : Hid (w5.setCells (w.heap.size + 1 + 1) 0 (#[.int .u64 (x.m.qb : Int), .int .u64 (x.m.qn : Int), .int .i64 x.m.at_, .int .i64 x.m.fr, .int .i64 x.m.tq, .int .u64 (x.n : Int), .slice p1 x.h.length r1, .slice p2 x.r.length r2, .bool x.d] : Array Value).toList = X8) := hX8
                have HL8 : Hid ((loadVar 68 ⟨w.heap.size + 1 + 1, 0, none⟩).run Try.prog X8 = .ok (.agg #[.int .u64 (x.m.qb : Int), .int .u64 (x.m.qn : Int), .int .i64 x.m.at_, .int .i64 x.m.fr, .int .i64 x.m.tq, .int .u64 (x.n : Int), .slice p1 x.h.length r1, .slice p2 x.r.length r2, .bool x.d]) X8) := hld8
                clear hb5' v1 v2 v3 v4 v5 v6 v7 v8 v9 hth8 hX8 hld8 hsX8 hkX8
                go_wp2_with (first | (refine wpList_load_mid rfl 68 _ rfl w.heap.size 0 rfl _ _ HR8.out Try.underlying68 rfl sz_In ?_) | (refine wpList_store_mid rfl 68 _ _ rfl (w.heap.size + 1 + 1) 0 #[.int .u64 (x.m.qb : Int), .int .u64 (x.m.qn : Int), .int .i64 x.m.at_, .int .i64 x.m.fr, .int .i64 x.m.tq, .int .u64 (x.n : Int), .slice p1 x.h.length r1, .slice p2 x.r.length r2, .bool x.d] rfl rfl HT8.out sz_In HON.out ?_; rw [HX8.out]))
                refine bodyPost_ret (v := .tuple #[.agg #[.int .u64 (x.m.qb : Int), .int .u64 (x.m.qn : Int), .int .i64 x.m.at_, .int .i64 x.m.fr, .int .i64 x.m.tq, .int .u64 (x.n : Int), .slice p1 x.h.length r1, .slice p2 x.r.length r2, .bool x.d], .int .i64 17]) (by simp only [results, Try.results19]; simp [asAddr, Act.put, HL8.out]) rfl ?_
                rw [HTP.out, HER.out]
                exact HTK.out
              | false =>
                have HE2 : Hid (refG x y = 0) := by show _ = _; rw [HE1.out]; rfl
                obtain ⟨z0, hz0⟩ : ∃ z0, insB ⟨y.s, y.l, y.r⟩ x.h = z0 := ⟨_, rfl⟩
                have HZ0 : Hid (insB ⟨y.s, y.l, y.r⟩ x.h = z0) := hz0
                have HTP : Hid (takeG x y = passI ⟨x.m, x.n, z0, x.r, x.d⟩) := by show _ = _; unfold takeG; rw [if_pos HE2.out, hz0]
                obtain ⟨w6, hw6⟩ : ∃ w6, w5.drew = w6 := ⟨_, rfl⟩
                have hb6 : Below w5.heap.size w5 w6 := by rw [← hw6]; exact (Below.refl _ _).drew
                have hs6 : w6.heap.size = w5.heap.size := by rw [← hw6]; rfl
                have HSV : Hid (∀ V : World, Below w5.heap.size w5 V → V.cell? ⟨w.heap.size + 1, 37, none⟩ = some (.int .u64 (y.s : Int)) ∧ V.cell? ⟨w.heap.size + 1, 38, none⟩ = some (.bool y.l) ∧ V.cell? ⟨w.heap.size + 1, 39, none⟩ = some (.slice qm y.r.length cm)) := fun V hb => by
                  obtain ⟨_, v2, _⟩ := HV.out V (hb5'.trans (hb.mono hb5'.size))
                  obtain ⟨_, _, _, _, _, _, m37, m38, m39⟩ := HCM.out V v2
                  exact ⟨m37, m38, m39⟩
                have C25 : Hid (∀ V, Below w5.heap.size w5 V → Calls Try.prog 25 #[.slice qm y.r.length cm] V fun e w' => ∃ u, e = .returned u ∧ OwnR rRow 1 96 V.heap.size w' u y.r ∧ Below V.heap.size V w') := fun V hb => by
                  obtain ⟨_, _, _, _, _, _, v7, v8, _⟩ := HV.out V (hb5'.trans (hb.mono hb5'.size))
                  exact copyRowsO _ _ K V v8 v7
                have HB6 : Hid (Below w5.heap.size w5 w6 ∧ w6.heap.size = w5.heap.size) := ⟨hb6, hs6⟩
                have HS6 : Hid ((fun V : World => V.cell? ⟨w.heap.size + 1, 37, none⟩ = some (.int .u64 (y.s : Int)) ∧ V.cell? ⟨w.heap.size + 1, 38, none⟩ = some (.bool y.l) ∧ V.cell? ⟨w.heap.size + 1, 39, none⟩ = some (.slice qm y.r.length cm)) w6) := HSV.out w6 hb6
                have HB5 : Hid (Below W3.heap.size W3 w5) := hb5'
                clear hz0 hb6 hs6 hb5' v1 v2 v3 v4 v5 v6 v7 v8 v9
                go_wp2_with fail
                refine via4 (A := fun (V : World) (xb : Nat) (pb : Option Addr) (cb : Nat) => V.heap[xb]? = some (.cells #[.int .u64 (y.s : Int), .bool y.l, .slice pb y.r.length cb] 91 (0, 0)) ∧ w5.heap.size ≤ xb ∧ Below w5.heap.size w5 V ∧ ListIs rRow 1 24 (fun b => w5.heap.size ≤ b ∧ b < V.heap.size ∧ b ≠ xb) V (.slice pb y.r.length cb) y.r) (Q := ?QQ4) (fun key => ?tree4) ?rest4
                case tree4 =>
                  refine wp_region_held_drew (S := fun V => V.cell? ⟨w.heap.size + 1, 37, none⟩ = some (.int .u64 (y.s : Int)) ∧ V.cell? ⟨w.heap.size + 1, 38, none⟩ = some (.bool y.l) ∧ V.cell? ⟨w.heap.size + 1, 39, none⟩ = some (.slice qm y.r.length cm)) (by kernel_rfl) (by rw [hw6]; exact HS6.out) (fun hHeld => ?_)
                  refine wpAnyH_take (i := 0) (v := .pointer (some ⟨w.heap.size + 1, 37, none⟩)) rfl (by kernel_rfl) (by kernel_rfl) (by kernel_rfl) (fun _ _ _ h => h) (.inl ⟨by rfl, fun W hW => by obtain ⟨h37, h38, h39⟩ := hW; go_simp⟩) hHeld ?_
                  simp only [Act.put, List.getElem_toArray, List.getElem_cons_zero, List.getElem_cons_succ, List.setIfInBounds_toArray, List.set_cons_zero, List.set_cons_succ]
                  refine wpAnyH_take (i := 1) (v := .int .u64 (y.s : Int)) rfl (by kernel_rfl) (by kernel_rfl) (by kernel_rfl) (fun _ _ _ h => h) (.inl ⟨by rfl, fun W hW => by obtain ⟨h37, h38, h39⟩ := hW; go_simp⟩) hHeld ?_
                  simp only [Act.put, List.getElem_toArray, List.getElem_cons_zero, List.getElem_cons_succ, List.setIfInBounds_toArray, List.set_cons_zero, List.set_cons_succ]
                  refine wpAnyH_take (i := 2) (v := .pointer (some ⟨w.heap.size + 1, 38, none⟩)) rfl (by kernel_rfl) (by kernel_rfl) (by kernel_rfl) (fun _ _ _ h => h) (.inl ⟨by rfl, fun W hW => by obtain ⟨h37, h38, h39⟩ := hW; go_simp⟩) hHeld ?_
                  simp only [Act.put, List.getElem_toArray, List.getElem_cons_zero, List.getElem_cons_succ, List.setIfInBounds_toArray, List.set_cons_zero, List.set_cons_succ]
                  refine wpAnyH_take (i := 3) (v := .bool y.l) rfl (by kernel_rfl) (by kernel_rfl) (by kernel_rfl) (fun _ _ _ h => h) (.inl ⟨by rfl, fun W hW => by obtain ⟨h37, h38, h39⟩ := hW; go_simp⟩) hHeld ?_
                  simp only [Act.put, List.getElem_toArray, List.getElem_cons_zero, List.getElem_cons_succ, List.setIfInBounds_toArray, List.set_cons_zero, List.set_cons_succ]
                  refine wpAnyH_take (i := 4) (v := .pointer (some ⟨w.heap.size + 1, 39, none⟩)) rfl (by kernel_rfl) (by kernel_rfl) (by kernel_rfl) (fun _ _ _ h => h) (.inl ⟨by rfl, fun W hW => by obtain ⟨h37, h38, h39⟩ := hW; go_simp⟩) hHeld ?_
                  simp only [Act.put, List.getElem_toArray, List.getElem_cons_zero, List.getElem_cons_succ, List.setIfInBounds_toArray, List.set_cons_zero, List.set_cons_succ]
                  refine wpAnyH_take (i := 5) (v := .slice qm y.r.length cm) rfl (by kernel_rfl) (by kernel_rfl) (by kernel_rfl) (fun _ _ _ h => h) (.inl ⟨by rfl, fun W hW => by obtain ⟨h37, h38, h39⟩ := hW; go_simp⟩) hHeld ?_
                  simp only [Act.put, List.getElem_toArray, List.getElem_cons_zero, List.getElem_cons_succ, List.setIfInBounds_toArray, List.set_cons_zero, List.set_cons_succ]
                  rw [hw6] at hHeld ⊢

                  refine wpAnyH_ready (rs := [6, 8]) (by kernel_rfl) (by simp) ?_
                  refine AllReadyH.cons rfl (fun K' hK => ?_) ?_
                  · rw [if_pos (by rfl)]
                    go_simp
                    go_at_call 25
                    refine (C25.out w6 HB6.out.1).mono ?_
                    rintro e w7 ⟨u7, rfl, ho7, hb7⟩
                    obtain ⟨pb, cb, rfl⟩ := ho7.slice
                    have hb7w : Below w5.heap.size w5 w7 := (HB6.out.1).trans (hb7.mono (HB6.out.1).size)
                    refine hK.out _ _ (HSV.out _ hb7w) (fun hHeld => ?_)
                    clear hK K'
                    refine wpAnyH_ready (rs := [7, 8]) (by kernel_rfl) (by simp) ?_
                    refine AllReadyH.cons rfl (fun K' hK => ?_) ?_
                    · rw [if_pos (by rfl)]
                      go_simp
                      refine hK.out _ _ hHeld (fun hHeld => ?_)
                      clear hK K'
                      refine wpAnyH_ready (rs := [8]) (by kernel_rfl) (by simp) ?_
                      refine AllReadyH.cons rfl (fun K' hK => ?_) AllReadyH.nil
                      rw [if_pos (by rfl)]
                      go_simp
                      obtain ⟨w8, hw8⟩ : ∃ w8, w7.alloc (.cells #[.int .u64 0, .bool false, .slice none 0 0] 91) = w8 := ⟨_, rfl⟩
                      have gab : Below w7.heap.size w7 w8 := by rw [← hw8]; exact (Below.refl _ _).alloc (Nat.le_refl _) _
                      have gag : w8.heap[w7.heap.size]? = some (.cells #[.int .u64 0, .bool false, .slice none 0 0] 91 (0, 0)) := by rw [← hw8]; exact heap_alloc_new _ _
                      have gas : w8.heap.size = w7.heap.size + 1 := by rw [← hw8]; simp
                      rw [hw8]
                      have gaw : Below w5.heap.size w5 w8 := (hb7w).trans (gab.mono (hb7w).size)
                      refine hK.out _ _ (HSV.out _ gaw) (fun hHeld => ?_)
                      clear hK K' hw8
                      refine wpAnyH_ready (rs := [9]) (by kernel_rfl) (by simp) ?_
                      refine AllReadyH.cons rfl (fun K' hK => ?_) AllReadyH.nil
                      rw [if_pos (by rfl)]
                      obtain ⟨xb, hxb⟩ : ∃ xb, w7.heap.size = xb := ⟨_, rfl⟩
                      have hgx : w8.heap[xb]? = some (.cells #[.int .u64 0, .bool false, .slice none 0 0] 91 (0, 0)) := by rw [← hxb]; exact gag
                      rw [hxb]
                      obtain ⟨hth, X, hX, _, hsX, hkX⟩ := put_row w8 xb _ 91 hgx [.int .u64 (y.s : Int), .bool y.l, .slice pb y.r.length cb] rfl Try.underlying91 rfl sz_batch
                      have hgX : X.heap[xb]? = some (.cells #[.int .u64 (y.s : Int), .bool y.l, .slice pb y.r.length cb] 91 (0, 0)) := by rw [← hX]; exact box_full w8 xb _ 91 hgx [.int .u64 (y.s : Int), .bool y.l, .slice pb y.r.length cb] rfl
                      have hlx : xb < w8.heap.size := (Array.getElem?_eq_some_iff.1 hgx).1
                      have hl5 : w5.heap.size ≤ xb := by have := hb7w.size; omega
                      have hbX : Below w5.heap.size w5 X := by
                        have hb := gaw
                        exact ⟨hkX.os.trans hb.os, hkX.tape.trans hb.tape, hkX.output.trans hb.output, by have := hb.size; omega, fun b h => (hkX.block b (by show b ≠ _; omega)).trans (hb.block b h)⟩
                      have hrX : ListIs rRow 1 24 (fun b => w5.heap.size ≤ b ∧ b < X.heap.size ∧ b ≠ xb) X (.slice pb y.r.length cb) y.r := by
                        obtain ⟨_, _, e9, l9⟩ := ho7.list mRow (bytes := 24) (by have := HY8.out; omega)
                        rw [← e9] at l9
                        have hg7 := gab
                        exact l9.mono mRow (fun b h => ⟨by have := h.1; have := HB6.out.2; omega, by have := h.2; have := gab.size; omega, by have := h.2; omega⟩) ((kept_of (fun b h => h.2) gab).trans (hkX.less fun b h => by show b ≠ _; have := h.2; omega))
                      have HTX : Hid (w8.there xb 0 3) := hth
                      have HXX : Hid (w8.setCells xb 0 (#[.int .u64 (y.s : Int), .bool y.l, .slice pb y.r.length cb] : Array Value).toList = X) := hX
                      have HOX : Hid ((#[.int .u64 (y.s : Int), .bool y.l, .slice pb y.r.length cb] : Array Value).all (·.oneCell') = true) := by show _ = _; simp [Value.oneCell']
                      refine wp_store_mid 91 (.tmp 6) (.tmp 66) rfl xb 0 #[.int .u64 (y.s : Int), .bool y.l, .slice pb y.r.length cb] rfl rfl HTX.out sz_batch HOX.out ?_
                      rw [HXX.out]
                      simp only [Act.put, List.getElem_toArray, List.getElem_cons_zero, List.getElem_cons_succ, List.setIfInBounds_toArray, List.set_cons_zero, List.set_cons_succ]
                      refine hK.out _ _ (HSV.out _ hbX) (fun hHeld => ?_)
                      clear hK K'
                      refine wpAnyH_done (by kernel_rfl) ?_ _
                      try simp only [Act.put, List.getElem_toArray, List.getElem_cons_zero, List.getElem_cons_succ, List.setIfInBounds_toArray, List.set_cons_zero, List.set_cons_succ]
                      exact key X xb pb cb ⟨hgX, hl5, hbX, hrX⟩
                    refine AllReadyH.cons rfl (fun K' hK => ?_) AllReadyH.nil
                    rw [if_pos (by rfl)]
                    go_simp
                    obtain ⟨w8, hw8⟩ : ∃ w8, w7.alloc (.cells #[.int .u64 0, .bool false, .slice none 0 0] 91) = w8 := ⟨_, rfl⟩
                    have gab : Below w7.heap.size w7 w8 := by rw [← hw8]; exact (Below.refl _ _).alloc (Nat.le_refl _) _
                    have gag : w8.heap[w7.heap.size]? = some (.cells #[.int .u64 0, .bool false, .slice none 0 0] 91 (0, 0)) := by rw [← hw8]; exact heap_alloc_new _ _
                    have gas : w8.heap.size = w7.heap.size + 1 := by rw [← hw8]; simp
                    rw [hw8]
                    have gaw : Below w5.heap.size w5 w8 := (hb7w).trans (gab.mono (hb7w).size)
                    refine hK.out _ _ (HSV.out _ gaw) (fun hHeld => ?_)
                    clear hK K' hw8
                    refine wpAnyH_ready (rs := [7]) (by kernel_rfl) (by simp) ?_
                    refine AllReadyH.cons rfl (fun K' hK => ?_) AllReadyH.nil
                    rw [if_pos (by rfl)]
                    go_simp
                    refine hK.out _ _ hHeld (fun hHeld => ?_)
                    clear hK K'
                    refine wpAnyH_ready (rs := [9]) (by kernel_rfl) (by simp) ?_
                    refine AllReadyH.cons rfl (fun K' hK => ?_) AllReadyH.nil
                    rw [if_pos (by rfl)]
                    obtain ⟨xb, hxb⟩ : ∃ xb, w7.heap.size = xb := ⟨_, rfl⟩
                    have hgx : w8.heap[xb]? = some (.cells #[.int .u64 0, .bool false, .slice none 0 0] 91 (0, 0)) := by rw [← hxb]; exact gag
                    rw [hxb]
                    obtain ⟨hth, X, hX, _, hsX, hkX⟩ := put_row w8 xb _ 91 hgx [.int .u64 (y.s : Int), .bool y.l, .slice pb y.r.length cb] rfl Try.underlying91 rfl sz_batch
                    have hgX : X.heap[xb]? = some (.cells #[.int .u64 (y.s : Int), .bool y.l, .slice pb y.r.length cb] 91 (0, 0)) := by rw [← hX]; exact box_full w8 xb _ 91 hgx [.int .u64 (y.s : Int), .bool y.l, .slice pb y.r.length cb] rfl
                    have hlx : xb < w8.heap.size := (Array.getElem?_eq_some_iff.1 hgx).1
                    have hl5 : w5.heap.size ≤ xb := by have := hb7w.size; omega
                    have hbX : Below w5.heap.size w5 X := by
                      have hb := gaw
                      exact ⟨hkX.os.trans hb.os, hkX.tape.trans hb.tape, hkX.output.trans hb.output, by have := hb.size; omega, fun b h => (hkX.block b (by show b ≠ _; omega)).trans (hb.block b h)⟩
                    have hrX : ListIs rRow 1 24 (fun b => w5.heap.size ≤ b ∧ b < X.heap.size ∧ b ≠ xb) X (.slice pb y.r.length cb) y.r := by
                      obtain ⟨_, _, e9, l9⟩ := ho7.list mRow (bytes := 24) (by have := HY8.out; omega)
                      rw [← e9] at l9
                      have hg7 := gab
                      exact l9.mono mRow (fun b h => ⟨by have := h.1; have := HB6.out.2; omega, by have := h.2; have := gab.size; omega, by have := h.2; omega⟩) ((kept_of (fun b h => h.2) gab).trans (hkX.less fun b h => by show b ≠ _; have := h.2; omega))
                    have HTX : Hid (w8.there xb 0 3) := hth
                    have HXX : Hid (w8.setCells xb 0 (#[.int .u64 (y.s : Int), .bool y.l, .slice pb y.r.length cb] : Array Value).toList = X) := hX
                    have HOX : Hid ((#[.int .u64 (y.s : Int), .bool y.l, .slice pb y.r.length cb] : Array Value).all (·.oneCell') = true) := by show _ = _; simp [Value.oneCell']
                    refine wp_store_mid 91 (.tmp 6) (.tmp 66) rfl xb 0 #[.int .u64 (y.s : Int), .bool y.l, .slice pb y.r.length cb] rfl rfl HTX.out sz_batch HOX.out ?_
                    rw [HXX.out]
                    simp only [Act.put, List.getElem_toArray, List.getElem_cons_zero, List.getElem_cons_succ, List.setIfInBounds_toArray, List.set_cons_zero, List.set_cons_succ]
                    refine hK.out _ _ (HSV.out _ hbX) (fun hHeld => ?_)
                    clear hK K'
                    refine wpAnyH_done (by kernel_rfl) ?_ _
                    try simp only [Act.put, List.getElem_toArray, List.getElem_cons_zero, List.getElem_cons_succ, List.setIfInBounds_toArray, List.set_cons_zero, List.set_cons_succ]
                    exact key X xb pb cb ⟨hgX, hl5, hbX, hrX⟩
                  refine AllReadyH.cons rfl (fun K' hK => ?_) AllReadyH.nil
                  rw [if_pos (by rfl)]
                  go_simp
                  obtain ⟨w8, hw8⟩ : ∃ w8, w6.alloc (.cells #[.int .u64 0, .bool false, .slice none 0 0] 91) = w8 := ⟨_, rfl⟩
                  have gab : Below w6.heap.size w6 w8 := by rw [← hw8]; exact (Below.refl _ _).alloc (Nat.le_refl _) _
                  have gag : w8.heap[w6.heap.size]? = some (.cells #[.int .u64 0, .bool false, .slice none 0 0] 91 (0, 0)) := by rw [← hw8]; exact heap_alloc_new _ _
                  have gas : w8.heap.size = w6.heap.size + 1 := by rw [← hw8]; simp
                  rw [hw8]
                  have gaw : Below w5.heap.size w5 w8 := (HB6.out.1).trans (gab.mono (HB6.out.1).size)
                  refine hK.out _ _ (HSV.out _ gaw) (fun hHeld => ?_)
                  clear hK K' hw8
                  refine wpAnyH_ready (rs := [6]) (by kernel_rfl) (by simp) ?_
                  refine AllReadyH.cons rfl (fun K' hK => ?_) AllReadyH.nil
                  rw [if_pos (by rfl)]
                  go_simp
                  go_at_call 25
                  refine (C25.out w8 gaw).mono ?_
                  rintro e w7 ⟨u7, rfl, ho7, hb7⟩
                  obtain ⟨pb, cb, rfl⟩ := ho7.slice
                  have hb7w : Below w5.heap.size w5 w7 := (gaw).trans (hb7.mono (gaw).size)
                  refine hK.out _ _ (HSV.out _ hb7w) (fun hHeld => ?_)
                  clear hK K'
                  refine wpAnyH_ready (rs := [7]) (by kernel_rfl) (by simp) ?_
                  refine AllReadyH.cons rfl (fun K' hK => ?_) AllReadyH.nil
                  rw [if_pos (by rfl)]
                  go_simp
                  refine hK.out _ _ hHeld (fun hHeld => ?_)
                  clear hK K'
                  refine wpAnyH_ready (rs := [9]) (by kernel_rfl) (by simp) ?_
                  refine AllReadyH.cons rfl (fun K' hK => ?_) AllReadyH.nil
                  rw [if_pos (by rfl)]
                  obtain ⟨xb, hxb⟩ : ∃ xb, w6.heap.size = xb := ⟨_, rfl⟩
                  have hgx : w7.heap[xb]? = some (.cells #[.int .u64 0, .bool false, .slice none 0 0] 91 (0, 0)) := by rw [← hxb]; exact (hb7.block _ (by omega)).trans gag
                  rw [hxb]
                  obtain ⟨hth, X, hX, _, hsX, hkX⟩ := put_row w7 xb _ 91 hgx [.int .u64 (y.s : Int), .bool y.l, .slice pb y.r.length cb] rfl Try.underlying91 rfl sz_batch
                  have hgX : X.heap[xb]? = some (.cells #[.int .u64 (y.s : Int), .bool y.l, .slice pb y.r.length cb] 91 (0, 0)) := by rw [← hX]; exact box_full w7 xb _ 91 hgx [.int .u64 (y.s : Int), .bool y.l, .slice pb y.r.length cb] rfl
                  have hlx : xb < w7.heap.size := (Array.getElem?_eq_some_iff.1 hgx).1
                  have hl5 : w5.heap.size ≤ xb := by have := HB6.out.2; omega
                  have hbX : Below w5.heap.size w5 X := by
                    have hb := hb7w
                    exact ⟨hkX.os.trans hb.os, hkX.tape.trans hb.tape, hkX.output.trans hb.output, by have := hb.size; omega, fun b h => (hkX.block b (by show b ≠ _; omega)).trans (hb.block b h)⟩
                  have hrX : ListIs rRow 1 24 (fun b => w5.heap.size ≤ b ∧ b < X.heap.size ∧ b ≠ xb) X (.slice pb y.r.length cb) y.r := by
                    obtain ⟨_, _, e9, l9⟩ := ho7.list mRow (bytes := 24) (by have := HY8.out; omega)
                    rw [← e9] at l9
                    exact l9.mono mRow (fun b h => ⟨by have := h.1; have := HB6.out.2; omega, by have := h.2; omega, by have := h.1; omega⟩) (hkX.less fun b h => by show b ≠ _; have := h.1; omega)
                  have HTX : Hid (w7.there xb 0 3) := hth
                  have HXX : Hid (w7.setCells xb 0 (#[.int .u64 (y.s : Int), .bool y.l, .slice pb y.r.length cb] : Array Value).toList = X) := hX
                  have HOX : Hid ((#[.int .u64 (y.s : Int), .bool y.l, .slice pb y.r.length cb] : Array Value).all (·.oneCell') = true) := by show _ = _; simp [Value.oneCell']
                  refine wp_store_mid 91 (.tmp 6) (.tmp 66) rfl xb 0 #[.int .u64 (y.s : Int), .bool y.l, .slice pb y.r.length cb] rfl rfl HTX.out sz_batch HOX.out ?_
                  rw [HXX.out]
                  simp only [Act.put, List.getElem_toArray, List.getElem_cons_zero, List.getElem_cons_succ, List.setIfInBounds_toArray, List.set_cons_zero, List.set_cons_succ]
                  refine hK.out _ _ (HSV.out _ hbX) (fun hHeld => ?_)
                  clear hK K'
                  refine wpAnyH_done (by kernel_rfl) ?_ _
                  try simp only [Act.put, List.getElem_toArray, List.getElem_cons_zero, List.getElem_cons_succ, List.setIfInBounds_toArray, List.set_cons_zero, List.set_cons_succ]
                  exact key X xb pb cb ⟨hgX, hl5, hbX, hrX⟩
                case rest4 =>
                  intro V xb pb cb hA4
                  obtain ⟨hgx, hl5, hbV, hrX⟩ := hA4
                  have hbV3 : Below W3.heap.size W3 V := HB5.out.trans (hbV.mono HB5.out.size)
                  obtain ⟨v1, v2, v3, v4, v5, v6, v7, v8, v9⟩ := HV.out V hbV3
                  obtain ⟨K', c1', c2', hK', hA', hQ', o1, rl1, o2, rl2⟩ := v6
                  obtain ⟨KK, hKKd⟩ : ∃ KK : Nat → Prop, KK = fun b => (K' b ∨ (Value.slice p1 x.h.length r1).ownBlock = some b) ∨ (w5.heap.size ≤ b ∧ b < V.heap.size ∧ b ≠ xb) := ⟨_, rfl⟩
                  have hw5 : w2.heap.size ≤ w5.heap.size := by obtain ⟨_, _, _, _, _, _, _, _, h9⟩ := HV.out w5 HB5.out; exact h9
                  have hKK : ∀ b, KK b → w1.heap.size ≤ b ∧ b < V.heap.size := fun b hb => by
                    rw [hKKd] at hb
                    have := HZ1.out
                    rcases hb with (h | h) | h
                    · exact ⟨(hK' b h).1, (hK' b h).2.1⟩
                    · exact o1.lt b h
                    · exact ⟨by omega, h.2.1⟩
                  have hKO : ∀ g, (Value.slice p2 x.r.length r2).ownBlock = some g → ¬ KK g := fun g hg hb => by
                    rw [hKKd] at hb
                    rcases hb with (h | h) | h
                    · exact (hK' g h).2.2.2.1 hg
                    · exact hA' g h hg
                    · have := hQ' g (.inr hg); omega
                  have hlist : ListIs rBat 3 40 KK V (.slice p1 x.h.length r1) x.h := by
                    obtain ⟨hl, ⟨e, hn0⟩ | ⟨g, cap, cur, e, hbg, hg, hnc, hcm, hcs, htake⟩⟩ := o1
                    · obtain ⟨rfl, _, rfl⟩ : p1 = none ∧ x.h.length = 0 ∧ r1 = 0 := by simpa using e
                      exact ⟨none, 0, rfl, ⟨by omega, by omega⟩, fun h => by omega⟩
                    · cases e
                      refine ⟨_, _, rfl, ⟨by have := HNS.out; omega, hnc⟩, fun _ => ⟨g, 0, rfl, by rw [hKKd]; exact .inl (.inr rfl), fun j hj => ⟨_, ?_, fun i u hu => ?_, mBat _ _ _ _ _ _ (fun b h => by rw [hKKd]; exact .inl (.inl h)) (Kept.refl _ _) (rl1 j hj)⟩⟩⟩
                      · rw [List.length_take, List.length_drop, hl]; omega
                      · have hi : i < 3 := by
                          have := (List.getElem?_eq_some_iff.1 hu).1
                          rw [List.length_take] at this; omega
                        rw [List.getElem?_take_of_lt hi, List.getElem?_drop, ← htake, List.getElem?_take_of_lt (by omega)] at hu
                        rw [Nat.zero_add]
                        exact cell_of_row hg (by simpa using hu)
                  have hrx : rBat KK V [.int .u64 (y.s : Int), .bool y.l, .slice pb y.r.length cb] ⟨y.s, y.l, y.r⟩ := ⟨_, rfl, HNS.out.2.2.2.2, hrX.mono mRow (fun b h => by rw [hKKd]; exact .inr h) (Kept.refl _ _)⟩
                  have HOR : Hid (OwnK KK rRow 1 96 w1.heap.size V (.slice p2 x.r.length r2) x.r) := ⟨c2', o2, fun j hj => mRow _ _ _ _ _ _ (fun b h => by rw [hKKd]; exact .inl (.inl h)) (Kept.refl _ _) (rl2 j hj)⟩
                  have HKV : Hid (∀ b, KK b → w1.heap.size ≤ b ∧ b < V.heap.size) := hKK
                  have HKO : Hid (∀ g, (Value.slice p2 x.r.length r2).ownBlock = some g → ¬ KK g) := hKO
                  have HLS : Hid (ListIs rBat 3 40 KK V (.slice p1 x.h.length r1) x.h) := hlist
                  have HRX : Hid (rBat KK V [.int .u64 (y.s : Int), .bool y.l, .slice pb y.r.length cb] ⟨y.s, y.l, y.r⟩) := hrx
                  have HGX : Hid (V.heap[xb]? = some (.cells #[.int .u64 (y.s : Int), .bool y.l, .slice pb y.r.length cb] 91 (0, 0)) ∧ xb < V.heap.size) := ⟨hgx, (Array.getElem?_eq_some_iff.1 hgx).1⟩
                  have HBX : Hid (V.heap[w.heap.size]? = some (.cells #[.int .u64 (x.m.qb : Int), .int .u64 (x.m.qn : Int), .int .i64 x.m.at_, .int .i64 x.m.fr, .int .i64 x.m.tq, .int .u64 (x.n : Int), .slice p1 x.h.length r1, .slice p2 x.r.length r2, .bool x.d] 68 (0, 0)) ∧ V.heap[w.heap.size + 1 + 1]? = some (.cells #[.int .u64 0, .int .u64 0, .int .i64 0, .int .i64 0, .int .i64 0, .int .u64 0, .slice none 0 0, .slice none 0 0, .bool false] 68 (0, 0)) ∧ Below w.heap.size w V ∧ w1.heap.size ≤ V.heap.size) := ⟨v1, v3, v4, by have := HZ1.out; omega⟩
                  have a6 := cell_of_row (k := 6) (v := .slice p1 x.h.length r1) v1 rfl
                  have hx3 : x.h.length ≤ 3 := HNS.out.2.2.1
                  have HJ0 : Hid (LJ KK V V (.slice none 0 0) (bldB ⟨y.s, y.l, y.r⟩ x.h 0)) := by
                    show LJ _ _ _ _ _
                    rw [bld_zero]
                    exact ⟨⟨[], World.ownsRow_nil _ _ _ _, fun j hj => absurd hj (by simp)⟩, Below.refl _ _⟩
                  obtain ⟨k, hk⟩ : ∃ k, x.h.findIdx (gtS y.s) = k := ⟨_, rfl⟩
                  have HK9 : Hid (x.h.findIdx (gtS (⟨y.s, y.l, y.r⟩ : Bat).s) = k) := hk
                  clear hKKd hKK hKO hlist hrx hrX hgx hl5 hbV hbV3 hw5 hK' hA' hQ' o1 o2 rl1 rl2 hk v1 v2 v3 v4 v5 v7 v8 v9
                  go_wp2_with fail
                  clear a6
                  go_loopg [7, 8, 70] x.h.length (fun gf s7 s8 s70 wx => ∃ (u : Value) (pt : Bool) (i : Nat), u = s7 ∧ s8 = .bool pt ∧ s70 = .int .i64 i ∧ i ≤ x.h.length ∧ x.h.length ≤ i + gf ∧ Hid (pt = decide (k < i)) ∧ Hid (LJ KK V wx u (bldB ⟨y.s, y.l, y.r⟩ x.h i)))
                  case atStart => exact ⟨_, false, 0, rfl, rfl, rfl, by omega, by omega, by show _ = _; simp, HJ0⟩
                  case round =>
                    clear HJ0
                    obtain ⟨u, pt, i, rfl, rfl, rfl, hi1, hgf, HPT, HJ⟩ := hrel
                    by_cases hi : i < x.h.length
                    · obtain ⟨g', rfl⟩ : ∃ g', gk = g' + 1 := ⟨gk - 1, by omega⟩
                      have hbw := HJ.out.bel
                      have hlw := ListIs.later mBat HLS.out (fun b h => (HKV.out b h).2) hbw
                      obtain ⟨bb, o, pz, cz, rfl, hKb, e0, e1, e2, hs64, hlz⟩ := bat_at hlw i hi
                      obtain ⟨_, _, _, _, eqq, _, f0, f1, f2, _, hlzV⟩ := bat_at HLS.out i hi
                      cases eqq
                      have hsame : V.cell? ⟨bb, o + i * 3 + 2, none⟩ = wr.cell? ⟨bb, o + i * 3 + 2, none⟩ := (hbw.cell (p := ⟨bb, _, none⟩) (HKV.out bb hKb).2).symm
                      rw [f2, e2] at hsame
                      cases hsame
                      obtain ⟨z, hz⟩ : ∃ z, x.h[i] = z := ⟨_, rfl⟩
                      have HZ : Hid (x.h[i] = z) := hz
                      rw [hz] at e0 e1 e2 hs64 hlzV
                      have HRZ2 : Hid (rBat KK V [.int .u64 (z.s : Int), .bool z.l, .slice pz z.r.length cz] z) := ⟨_, rfl, hs64, hlzV⟩
                      obtain ⟨X1, hX1⟩ : ∃ X1, wr.alloc (.cells #[.int .u64 (z.s : Int), .bool z.l, .slice pz z.r.length cz] 91) = X1 := ⟨_, rfl⟩
                      have hb1 : Below wr.heap.size wr X1 := by rw [← hX1]; exact (Below.refl _ _).alloc (Nat.le_refl _) _
                      have hg1 : X1.heap[wr.heap.size]? = some (.cells #[.int .u64 (z.s : Int), .bool z.l, .slice pz z.r.length cz] 91 (0, 0)) := by rw [← hX1]; exact heap_alloc_new wr _
                      have hs1 : X1.heap.size = wr.heap.size + 1 := by rw [← hX1]; simp
                      have hJ1 := HJ.out.kept (fun b h => (HKV.out b h).2) hb1
                      have hgx1 : X1.heap[xb]? = some (.cells #[.int .u64 (y.s : Int), .bool y.l, .slice pb y.r.length cb] 91 (0, 0)) := (hJ1.bel.block _ HGX.out.2).trans HGX.out.1
                      have d0 := cell_of_row (k := 0) (v := .int .u64 (y.s : Int)) hgx1 rfl
                      have d1 := cell_of_row (k := 1) (v := .bool y.l) hgx1 rfl
                      have d2 := cell_of_row (k := 2) (v := .slice pb y.r.length cb) hgx1 rfl
                      have q0 := cell_of_row (k := 0) (v := .int .u64 (z.s : Int)) hg1 rfl
                      have q1 := cell_of_row (k := 1) (v := .bool z.l) hg1 rfl
                      have q2' := cell_of_row (k := 2) (v := .slice pz z.r.length cz) hg1 rfl
                      have y0 : (0 : Int) ≤ (i : Int) := by omega
                      have y1 : (i : Int) < (x.h.length : Int) := by omega
                      have hbl := bld_len ⟨y.s, y.l, y.r⟩ x.h i
                      by_cases hik : i < k
                      · obtain ⟨hgf2, hbe⟩ := bld_lt ⟨y.s, y.l, y.r⟩ x.h i hi (by rw [HK9.out]; exact hik)
                        rw [hz] at hgf2 hbe
                        unfold gtS at hgf2
                        have hns : ¬ y.s < z.s := of_decide_eq_false hgf2
                        have ys1 : ¬ (y.s : Int) < (z.s : Int) := by omega
                        have ys2 : decide (y.s < z.s) = false := decide_eq_false hns
                        have hpf : pt = false := by rw [HPT.out]; exact decide_eq_false (by omega)
                        obtain ⟨pn, cn, X2, hrun, hJ2, _⟩ := hJ1.push (fun b h => (HKV.out b h).2) HRZ2.out rfl (by omega)
                        have HJ2 : Hid (LJ KK V X2 (.slice pn ((bldB ⟨y.s, y.l, y.r⟩ x.h i).length + 1) cn) (bldB ⟨y.s, y.l, y.r⟩ x.h (i + 1))) := by show LJ _ _ _ _ _; rw [hbe]; exact hJ2
                        have HP2 : Hid (false = decide (k < i + 1)) := (decide_eq_false (by omega)).symm
                        subst hpf
                        clear hgf2 hbe hJ2 hJ1 hgx1 hg1 hb1 hs1 hlw hlz hlzV hbw hKb hz hs64 HJ HPT f0 f1 f2
                        go_wp2_with (at_builtin; refine Lib.wpList_append_run _ rfl _ _ _ _ rfl u (.slice (some ⟨X1.heap.size, 0, none⟩) 1 1) rfl rfl _ _ hrun ?_)
                        go_roundg g'
                        case measure => omega
                        case rel => exact ⟨_, false, i + 1, rfl, rfl, by go_num, by omega, by omega, HP2, HJ2⟩
                      · by_cases hie : i = k
                        · obtain ⟨hgf2, hbe⟩ := bld_eq ⟨y.s, y.l, y.r⟩ x.h i hi (by rw [HK9.out]; exact hie.symm)
                          rw [hz] at hgf2 hbe
                          unfold gtS at hgf2
                          have hns : y.s < z.s := of_decide_eq_true hgf2
                          have ys1 : (y.s : Int) < (z.s : Int) := by omega
                          have ys2 : decide (y.s < z.s) = true := decide_eq_true hns
                          have hpf : pt = false := by rw [HPT.out]; exact decide_eq_false (by omega)
                          obtain ⟨pn, cn, X2, hrun, hJ2, hk2⟩ := hJ1.push (fun b h => (HKV.out b h).2) HRX.out rfl (by omega)
                          have hown : u.ownBlock ≠ some wr.heap.size := fun e => by obtain ⟨_, o9, _⟩ := HJ.out.own; have := (o9.lt _ e).2; omega
                          have hg2 : X2.heap[wr.heap.size]? = some (.cells #[.int .u64 (z.s : Int), .bool z.l, .slice pz z.r.length cz] 91 (0, 0)) := (hk2.block _ ⟨by omega, hown⟩).trans hg1
                          obtain ⟨po, co, X3, hrun2, hJ3, _⟩ := hJ2.push (fun b h => (HKV.out b h).2) HRZ2.out rfl (by simp; omega)
                          rw [List.length_append] at hrun2 hJ3
                          simp only [List.length_cons, List.length_nil, Nat.zero_add] at hrun2 hJ3
                          have HJ2 : Hid (LJ KK V X3 (.slice po ((bldB ⟨y.s, y.l, y.r⟩ x.h i).length + 1 + 1) co) (bldB ⟨y.s, y.l, y.r⟩ x.h (i + 1))) := by show LJ _ _ _ _ _; rw [hbe]; exact hJ3
                          have HP2 : Hid (true = decide (k < i + 1)) := (decide_eq_true (by omega)).symm
                          have s0 := cell_of_row (k := 0) (v := .int .u64 (z.s : Int)) hg2 rfl
                          have s1 := cell_of_row (k := 1) (v := .bool z.l) hg2 rfl
                          have s2 := cell_of_row (k := 2) (v := .slice pz z.r.length cz) hg2 rfl
                          subst hpf
                          clear hgf2 hbe hJ2 hJ1 hJ3 hk2 hg2 hown hgx1 hg1 hb1 hs1 hlw hlz hlzV hbw hKb hz hs64 HJ HPT f0 f1 f2 hie hik
                          go_wp2_with (first | (at_builtin; refine Lib.wpList_append_run _ rfl _ _ _ _ rfl u (.slice (some ⟨X1.heap.size, 0, none⟩) 1 1) rfl rfl _ _ hrun ?_) | (at_builtin; refine Lib.wpList_append_run _ rfl _ _ _ _ rfl (.slice pn ((bldB ⟨y.s, y.l, y.r⟩ x.h i).length + 1) cn) (.slice (some ⟨X2.heap.size, 0, none⟩) 1 1) rfl rfl _ _ hrun2 ?_))
                          go_roundg g'
                          case measure => omega
                          case rel => exact ⟨_, true, i + 1, rfl, rfl, by go_num, by omega, by omega, HP2, HJ2⟩
                        · have hki : k < i := by omega
                          have hbe := bld_gt ⟨y.s, y.l, y.r⟩ x.h i hi (by rw [HK9.out]; exact hki)
                          rw [hz] at hbe
                          have hpf : pt = true := by rw [HPT.out]; exact decide_eq_true hki
                          obtain ⟨pn, cn, X2, hrun, hJ2, _⟩ := hJ1.push (fun b h => (HKV.out b h).2) HRZ2.out rfl (by omega)
                          have HJ2 : Hid (LJ KK V X2 (.slice pn ((bldB ⟨y.s, y.l, y.r⟩ x.h i).length + 1) cn) (bldB ⟨y.s, y.l, y.r⟩ x.h (i + 1))) := by show LJ _ _ _ _ _; rw [hbe]; exact hJ2
                          have HP2 : Hid (true = decide (k < i + 1)) := (decide_eq_true (by omega)).symm
                          subst hpf
                          clear hbe hJ2 hJ1 hgx1 hg1 hb1 hs1 hlw hlz hlzV hbw hKb hz hs64 HJ HPT f0 f1 f2 hie hik hki
                          go_wp2_with (at_builtin; refine Lib.wpList_append_run _ rfl _ _ _ _ rfl u (.slice (some ⟨X1.heap.size, 0, none⟩) 1 1) rfl rfl _ _ hrun ?_)
                          go_roundg g'
                          case measure => omega
                          case rel => exact ⟨_, true, i + 1, rfl, rfl, by go_num, by omega, by omega, HP2, HJ2⟩
                    · have y1 : ¬ (i : Int) < (x.h.length : Int) := by omega
                      have hie : i = x.h.length := by omega
                      subst hie
                      by_cases hkl : k < x.h.length
                      · have hpf : pt = true := by rw [HPT.out]; exact decide_eq_true hkl
                        have hJ1 := HJ.out
                        rw [bld_put _ _ (by rw [HK9.out]; exact hkl), HZ0.out] at hJ1
                        obtain ⟨Y, hY⟩ : ∃ Y, Y = wr := ⟨_, rfl⟩
                        subst hY
                        obtain ⟨pn, cn, rfl⟩ : ∃ pn cn, u = .slice pn z0.length cn := by obtain ⟨_, o9, _⟩ := hJ1.own; exact owns_slice o9
                        subst hpf
                        clear HJ HPT hkl
                        obtain ⟨g0', g2', hbV', hbig'⟩ := HBX.out
                        have hgY : Y.heap[w.heap.size]? = some (.cells ([.int .u64 (x.m.qb : Int), .int .u64 (x.m.qn : Int), .int .i64 x.m.at_, .int .i64 x.m.fr, .int .i64 x.m.tq, .int .u64 (x.n : Int), .slice p1 x.h.length r1, .slice p2 x.r.length r2, .bool x.d] : List Value).toArray 68 (0, 0)) := (hJ1.bel.block _ (Array.getElem?_eq_some_iff.1 g0').1).trans g0'
                        obtain ⟨Y1, hY1, c6, f6, hgY1, hsY1, hkY1⟩ := box_put hgY (k := 6) (u := .slice p1 x.h.length r1) rfl (.slice pn z0.length cn)
                        have hgY1' : Y1.heap[w.heap.size]? = some (.cells #[.int .u64 (x.m.qb : Int), .int .u64 (x.m.qn : Int), .int .i64 x.m.at_, .int .i64 x.m.fr, .int .i64 x.m.tq, .int .u64 (x.n : Int), .slice pn z0.length cn, .slice p2 x.r.length r2, .bool x.d] 68 (0, 0)) := hgY1
                        obtain ⟨KL, hKL⟩ : ∃ KL : Nat → Prop, KL = fun b => KK b ∨ (Value.slice pn z0.length cn).ownBlock = some b := ⟨_, rfl⟩
                        have hz4 : z0.length ≤ 4 := by rw [← HZ0.out, insB_length]; omega
                        have hownV : ∀ g, (Value.slice pn z0.length cn).ownBlock = some g → V.heap.size ≤ g ∧ g < Y.heap.size := fun g hg => by obtain ⟨_, o9, _⟩ := hJ1.own; exact o9.lt g hg
                        have hsz := hJ1.bel.size
                        have hwz := HZ1.out
                        have hKLlt : ∀ g, KL g → w1.heap.size ≤ g ∧ g < Y.heap.size := fun g hg => by
                          rw [hKL] at hg
                          rcases hg with h | h
                          · have := HKV.out g h; exact ⟨this.1, by omega⟩
                          · have := hownV g h; exact ⟨by omega, this.2⟩
                        have hkKL : Kept KL Y Y1 := hkY1.less fun g hg => by have := (hKLlt g hg).1; show g ≠ _; omega
                        have hlz : ListIs rBat 3 40 KL Y (.slice pn z0.length cn) z0 := by
                          obtain ⟨cells, o9, r9⟩ := hJ1.own
                          obtain ⟨hl, ⟨e, hn0⟩ | ⟨g, cap, cur, e, hbg, hg, hnc, hcm, hcs, htake⟩⟩ := o9
                          · obtain ⟨rfl, _, rfl⟩ : pn = none ∧ z0.length = 0 ∧ cn = 0 := by simpa using e
                            exact ⟨none, 0, rfl, ⟨by omega, by omega⟩, fun h => by omega⟩
                          · cases e
                            refine ⟨_, _, rfl, ⟨by omega, hnc⟩, fun _ => ⟨g, 0, rfl, by rw [hKL]; exact .inr rfl, fun j hj => ⟨_, ?_, fun i u hu => ?_, mBat _ _ _ _ _ _ (fun b h => by rw [hKL]; exact .inl h) (Kept.refl _ _) (r9 j hj)⟩⟩⟩
                            · rw [List.length_take, List.length_drop, hl]; omega
                            · have hi : i < 3 := by
                                have := (List.getElem?_eq_some_iff.1 hu).1
                                rw [List.length_take] at this; omega
                              rw [List.getElem?_take_of_lt hi, List.getElem?_drop, ← htake, List.getElem?_take_of_lt (by omega)] at hu
                              rw [Nat.zero_add]
                              exact cell_of_row hg (by simpa using hu)
                        have hown2 : ∀ g, (Value.slice p2 x.r.length r2).ownBlock = some g → w1.heap.size ≤ g ∧ g < V.heap.size := fun g hg => by obtain ⟨_, o9, _⟩ := HOR.out; exact o9.lt g hg
                        have HI0 : Hid (PasT x w.heap.size (w.heap.size + 1 + 1) w1.heap.size KL w Y1 pn cn z0 x.n x.d p2 r2 x.r) := by
                          refine ⟨hlz.mono mBat (fun _ h => h) hkKL, ?_, fun g hg h => ?_, fun g hg => ⟨(hKLlt g hg).1, by have := (hKLlt g hg).2; omega⟩, by omega, ?_, hgY1', ?_⟩
                          · obtain ⟨c9, o9, r9⟩ := HOR.out
                            have hkk : Kept (fun b => KK b ∨ (Value.slice p2 x.r.length r2).ownBlock = some b) V Y1 := (kept_of (fun b h => h.elim (fun h => (HKV.out b h).2) (fun h => (hown2 b h).2)) hJ1.bel).trans (hkY1.less fun b h => by show b ≠ _; rcases h with h | h; have := (HKV.out b h).1; omega; have := (hown2 b h).1; omega)
                            exact ⟨c9, owns_kept o9 (fun g hg => hkk.block g (.inr hg)), fun j hj => mRow _ _ _ _ _ _ (fun b h => by rw [hKL]; exact .inl h) (hkk.less fun b h => .inl h) (r9 j hj)⟩
                          · rw [hKL] at h
                            rcases h with h | h
                            · exact HKO.out g hg h
                            · have := (hownV g h).1; have := (hown2 g hg).2; omega
                          · have hb := hbV'.trans (hJ1.bel.mono hbV'.size)
                            exact ⟨hkY1.os.trans hb.os, hkY1.tape.trans hb.tape, hkY1.output.trans hb.output, by have := hb.size; omega, fun b h => (hkY1.block b (by show b ≠ _; omega)).trans (hb.block b h)⟩
                          · exact (hkY1.block _ (by show _ ≠ _; omega)).trans ((hJ1.bel.block _ (Array.getElem?_eq_some_iff.1 g2').1).trans g2')
                        have H80 : Hid (∀ b ∈ z0, b.r.length ≤ 8) := fun b hb => by
                          rw [← HZ0.out] at hb
                          unfold insB at hb
                          rw [List.mem_append, List.mem_cons] at hb
                          rcases hb with hb | rfl | hb
                          · exact HNS.out.2.2.2.1 b (List.mem_of_mem_take hb)
                          · exact HY8.out
                          · exact HNS.out.2.2.2.1 b (List.mem_of_mem_drop hb)
                        have hcz : z0.length ≤ cn := by obtain ⟨_, _, e, h9, _⟩ := hlz; cases e; exact h9.2
                        have hnb : x.n + z0.length ≤ 1000000 ∧ x.r.length + 8 * z0.length ≤ 1000000 := by have := HNS.out; omega
                        have HBW : Hid (w.heap.size ≤ w.heap.size ∧ w.heap.size < w1.heap.size ∧ w.heap.size + 1 + 1 < w1.heap.size) := ⟨by omega, by omega, by omega⟩
                        clear g0' g2' hbV' hbig' hgY hgY1 hgY1' hsY1 hkY1 hKLlt hkKL hlz hown2 hownV hsz hwz hJ1 hKL hz4 HOR HLS HKO HGX HBX
                        go_wp2_with fail
                        as_aux_lemma =>
                          go_loopg [11] z0.length (fun gf s11 wx => ∃ (hq : Option Addr) (hc : Nat) (rest : List Bat) (n : Nat) (d : Bool) (p : Option Addr) (c : Nat) (r : List (List Val)), rest.length ≤ gf ∧ rest.length ≤ hc ∧ n + rest.length ≤ 1000000 ∧ r.length + 8 * rest.length ≤ 1000000 ∧ Hid (PasT x w.heap.size (w.heap.size + 1 + 1) w1.heap.size KL w wx hq hc rest n d p c r) ∧ Hid (∀ b ∈ rest, b.r.length ≤ 8) ∧ Hid (passP x.n x.d x.r z0 = passP n d r rest))
                          case atStart => exact ⟨_, _, z0, x.n, x.d, _, _, x.r, Nat.le_refl _, hcz, hnb.1, hnb.2, HI0, H80, rfl⟩
                          case round =>
                            clear HI0 H80 hcz hnb c6 f6 hY1
                            obtain ⟨hq, hc, rest, n, d, p, c, r, hgf, hcq, hnn, hrr, HI, H8, HP⟩ := hrel
                            have b5 := cell_of_row (k := 5) (v := .int .u64 (n : Int)) HI.out.box rfl
                            have b6 := cell_of_row (k := 6) (v := .slice hq rest.length hc) HI.out.box rfl
                            cases rest with
                            | nil =>
                              clear H8
                              have HPE : Hid (passP x.n x.d x.r z0 = (n, d, r, [])) := HP.out
                              clear HP
                              simp only [List.length_nil] at hgf hcq hnn hrr b6
                              go_wp2_with fail
                              go_quiet (fail)
                              clear b5 b6
                              obtain ⟨W1, hW1⟩ : ∃ W1, wr.drewN nq = W1 := ⟨_, rfl⟩
                              rw [hW1]
                              have hbq : Below wr.heap.size wr W1 := by rw [← hW1]; exact below_drewN (Below.refl _ _) _
                              have HJ := HI.out.kept hbq
                              obtain ⟨hth8, X8, hX8, hld8, hsX8, hkX8⟩ := put_row W1 (w.heap.size + 1 + 1) _ 68 HJ.res [.int .u64 (x.m.qb : Int), .int .u64 (x.m.qn : Int), .int .i64 x.m.at_, .int .i64 x.m.fr, .int .i64 x.m.tq, .int .u64 (n : Int), .slice hq 0 hc, .slice p r.length c, .bool d] rfl Try.underlying68 rfl sz_In
                              have hzz : passI ⟨x.m, x.n, z0, x.r, x.d⟩ = ⟨x.m, n, [], r, d⟩ := by unfold passI; rw [HPE.out]
                              have HTK : Hid (TakR w 0 (passI ⟨x.m, x.n, z0, x.r, x.d⟩) (.returned (.tuple #[.agg #[.int .u64 (x.m.qb : Int), .int .u64 (x.m.qn : Int), .int .i64 x.m.at_, .int .i64 x.m.fr, .int .i64 x.m.tq, .int .u64 (n : Int), .slice hq 0 hc, .slice p r.length c, .bool d], .int .i64 0])) X8) := by
                                rw [hzz]
                                have hbig := HJ.big
                                have hBW := HBW.out
                                obtain ⟨_, _, e9, l9⟩ := OwnK.list mRow (P := fun _ => True) (bytes := 24) HJ.rows (fun b hb => ⟨(HJ.lt b hb).1, (HJ.lt b hb).2, trivial⟩) (fun _ _ => trivial) (by omega)
                                rw [← e9] at l9
                                have kk : ∀ (Q : Nat → Prop), (∀ b, Q b → w1.heap.size ≤ b) → Kept Q W1 X8 := fun Q hQ => hkX8.less fun b hb => by have := hQ b hb; show b ≠ _; omega
                                refine ⟨[.int .u64 (x.m.qb : Int), .int .u64 (x.m.qn : Int), .int .i64 x.m.at_, .int .i64 x.m.fr, .int .i64 x.m.tq, .int .u64 (n : Int), .slice hq 0 hc, .slice p r.length c, .bool d], rfl, ⟨_, _, rfl, ⟨HOK.out, by show n < _; omega⟩, HJ.held.mono mBat (fun b h => ⟨by have := (HJ.lt b h).1; omega, by have := (HJ.lt b h).2; omega⟩) (kk _ fun b h => (HJ.lt b h).1), l9.mono mRow (fun b h => ⟨by have := h.1.1; omega, by have := h.1.2; omega⟩) (kk _ fun b h => h.1.1)⟩, ?_⟩
                                have hb := HJ.bel
                                exact ⟨hkX8.os.trans hb.os, hkX8.tape.trans hb.tape, hkX8.output.trans hb.output, by have := hb.size; omega, fun b h => (hkX8.block b (by show b ≠ _; omega)).trans (hb.block b h)⟩
                              have HR8 : Hid (W1.rangeAt w.heap.size 0 [.int .u64 (x.m.qb : Int), .int .u64 (x.m.qn : Int), .int .i64 x.m.at_, .int .i64 x.m.fr, .int .i64 x.m.tq, .int .u64 (n : Int), .slice hq 0 hc, .slice p r.length c, .bool d]) := fun j u hu => by rw [Nat.zero_add]; exact cell_of_row HJ.box (by simpa using hu)
                              have HT8 : Hid (W1.there (w.heap.size + 1 + 1) 0 9) := hth8
                              have HX8 : Hid (W1.setCells (w.heap.size + 1 + 1) 0 (#[.int .u64 (x.m.qb : Int), .int .u64 (x.m.qn : Int), .int .i64 x.m.at_, .int .i64 x.m.fr, .int .i64 x.m.tq, .int .u64 (n : Int), .slice hq 0 hc, .slice p r.length c, .bool d] : Array Value).toList = X8) := hX8
                              have HL8 : Hid ((loadVar 68 ⟨w.heap.size + 1 + 1, 0, none⟩).run Try.prog X8 = .ok (.agg #[.int .u64 (x.m.qb : Int), .int .u64 (x.m.qn : Int), .int .i64 x.m.at_, .int .i64 x.m.fr, .int .i64 x.m.tq, .int .u64 (n : Int), .slice hq 0 hc, .slice p r.length c, .bool d]) X8) := hld8
                              have HO8 : Hid ((#[.int .u64 (x.m.qb : Int), .int .u64 (x.m.qn : Int), .int .i64 x.m.at_, .int .i64 x.m.fr, .int .i64 x.m.tq, .int .u64 (n : Int), .slice hq 0 hc, .slice p r.length c, .bool d] : Array Value).all (·.oneCell') = true) := by show _ = _; simp [Value.oneCell']
                              clear hth8 hX8 hld8 hsX8 hkX8 HJ HI hW1 hbq hzz
                              go_wp2_with (first | (refine wpList_load_mid rfl 68 _ rfl w.heap.size 0 rfl _ _ HR8.out Try.underlying68 rfl sz_In ?_) | (refine wpList_store_mid rfl 68 _ _ rfl (w.heap.size + 1 + 1) 0 #[.int .u64 (x.m.qb : Int), .int .u64 (x.m.qn : Int), .int .i64 x.m.at_, .int .i64 x.m.fr, .int .i64 x.m.tq, .int .u64 (n : Int), .slice hq 0 hc, .slice p r.length c, .bool d] rfl rfl HT8.out sz_In HO8.out ?_; rw [HX8.out]))
                              refine bodyPost_ret (v := .tuple #[.agg #[.int .u64 (x.m.qb : Int), .int .u64 (x.m.qn : Int), .int .i64 x.m.at_, .int .i64 x.m.fr, .int .i64 x.m.tq, .int .u64 (n : Int), .slice hq 0 hc, .slice p r.length c, .bool d], .int .i64 0]) (by simp only [results, Try.results19]; simp [asAddr, Act.put, HL8.out]) rfl ?_
                              rw [HTP.out, HE2.out]
                              exact HTK.out
                            | cons b bs =>
                              obtain ⟨g', rfl⟩ : ∃ g', gk = g' + 1 := ⟨gk - 1, by simp at hgf; omega⟩
                              obtain ⟨bb, o, pm, cm', rfl, hKb, e0, e1, e2, hs64, hrl⟩ := bat_at HI.out.held 0 (by simp)
                              simp only [Nat.zero_mul, Nat.add_zero, List.getElem_cons_zero] at e0 e1 e2 hs64 hrl
                              have hb8 : b.r.length ≤ 8 := H8.out b (by simp)
                              have H8' : Hid (∀ y ∈ bs, y.r.length ≤ 8) := fun y hy => H8.out y (by simp [hy])
                              have htl := bat_tail HI.out.held
                              simp only [List.length_cons] at hgf hcq hnn hrr b6
                              have z0' : (0 : Int) < (bs.length : Int) + 1 := by omega
                              have z9 : bs.length ≤ 1000000 := by omega
                              clear H8
                              by_cases heq : b.s = n
                              · have y0 : ((b.s : Int) == (n : Int)) = true := by simp; omega
                                have HPE : Hid (passP x.n x.d x.r z0 = passP (n + 1) b.l (r ++ b.r) bs) := by show _ = _; rw [HP.out, passP, if_pos heq]
                                clear HP heq
                                go_wp2_with fail
                                go_quiet (fail)
                                obtain ⟨W1, hW1⟩ : ∃ W1, wr.drewN nq = W1 := ⟨_, rfl⟩
                                rw [hW1]
                                have hbq : Below wr.heap.size wr W1 := by rw [← hW1]; exact below_drewN (Below.refl _ _) _
                                have hcq1 : ∀ g k, W1.cell? ⟨g, k, none⟩ = wr.cell? ⟨g, k, none⟩ := fun g k => by rw [← hW1]; rfl
                                have hsq : W1.heap.size = wr.heap.size := by rw [← hW1]; rfl
                                obtain ⟨W2, hW2⟩ : ∃ W2, W1.alloc (.cells #[.int .u64 (b.s : Int), .bool b.l, .slice pm b.r.length cm'] 91) = W2 := ⟨_, rfl⟩
                                have hb2 : Below W1.heap.size W1 W2 := by rw [← hW2]; exact (Below.refl _ _).alloc (Nat.le_refl _) _
                                have hg2 : W2.heap[W1.heap.size]? = some (.cells #[.int .u64 (b.s : Int), .bool b.l, .slice pm b.r.length cm'] 91 (0, 0)) := by rw [← hW2]; exact heap_alloc_new _ _
                                have hs2 : W2.heap.size = W1.heap.size + 1 := by rw [← hW2]; simp
                                have hbw2 : Below wr.heap.size wr W2 := hbq.trans (hb2.mono hbq.size)
                                have HJ2 := HI.out.kept hbw2
                                have hk2 : Kept KL wr W2 := kept_of (fun g h => (HI.out.lt g h).2) hbw2
                                have hnob : (Value.slice p r.length c).ownBlock ≠ some W1.heap.size := fun e => by obtain ⟨_, o9, _⟩ := HI.out.rows; have := (o9.lt _ e).2; omega
                                have hlw : w.heap.size < W1.heap.size := by have := HI.out.big; have := HBW.out; omega
                                obtain ⟨p', c', X2, hrun, hc7, hf7, X3, hX3, hc5, hf5, X4, hX4, hc6, hf6, hfin⟩ := HJ2.step ⟨by omega, HBW.out.2.1⟩ ⟨by omega, HBW.out.2.2⟩ (by omega) (hrl.mono mRow (fun _ h => h) hk2) (by omega) (bx := W1.heap.size) ⟨by omega, by omega, hnob⟩
                                have d6 : W1.cell? ⟨w.heap.size, 6, none⟩ = some (.slice (some ⟨bb, o, none⟩) (bs.length + 1) hc) := by rw [hcq1]; exact b6
                                have d0 : W1.cell? ⟨bb, o, none⟩ = some (.int .u64 (b.s : Int)) := by rw [hcq1]; exact e0
                                have d1 : W1.cell? ⟨bb, o + 1, none⟩ = some (.bool b.l) := by rw [hcq1]; exact e1
                                have d2 : W1.cell? ⟨bb, o + 2, none⟩ = some (.slice pm b.r.length cm') := by rw [hcq1]; exact e2
                                have x2 := cell_of_row (k := 2) (v := .slice pm b.r.length cm') hg2 rfl
                                have x1 := cell_of_row (k := 1) (v := .bool b.l) hg2 rfl
                                have x7 := cell_of_row (k := 7) (v := .slice p r.length c) HJ2.box rfl
                                have hn1 : ((n : Int) + 1) % 18446744073709551616 = (n : Int) + 1 := by omega
                                clear hW1 hbq hcq1 hsq hb2 hg2 hs2 hbw2 HJ2 hnob hlw hrl HI b5 b6 e0 e1 e2 hKb
                                simp only [List.length_cons] at hc6
                                by_cases hq1 : hc = 1
                                · obtain ⟨hl0, hl1⟩ := htl.2 hq1
                                  subst hq1
                                  have hbn : bs = [] := List.eq_nil_of_length_eq_zero hl0
                                  subst hbn
                                  obtain ⟨X5, hX5, hc8, hf8, hbc, X6, hX6, hP6⟩ := hfin _ _ (hl1.mono mBat (fun _ h => h) hk2)
                                  have x1' : X5.cell? ⟨W1.heap.size, 1, none⟩ = some (.bool b.l) := (hbc 1).trans x1
                                  have HN := hid hP6
                                  simp only [List.length_nil] at *
                                  clear hfin htl hl0 hl1 hbc x1 hk2 hP6
                                  go_wp2_with (at_builtin; refine Lib.wpList_append_run _ rfl _ _ _ _ rfl (.slice p r.length c) (.slice pm b.r.length cm') rfl rfl _ _ hrun ?_)
                                  go_roundg g'
                                  case measure => omega
                                  case rel => exact ⟨some ⟨bb, o, none⟩, 0, [], n + 1, b.l, p', c', r ++ b.r, by simp, by simp, by simp at *; omega, by simp at *; omega, HN, H8', HPE⟩
                                · obtain ⟨X5, hX5, hc8, hf8, hbc, X6, hX6, hP6⟩ := hfin _ _ (htl.1.mono mBat (fun _ h => h) hk2)
                                  have x1' : X5.cell? ⟨W1.heap.size, 1, none⟩ = some (.bool b.l) := (hbc 1).trans x1
                                  have HN := hid hP6
                                  have zq : 1 ≤ hc := by omega
                                  clear hfin htl hbc x1 hk2 hP6
                                  go_wp2_with (at_builtin; refine Lib.wpList_append_run _ rfl _ _ _ _ rfl (.slice p r.length c) (.slice pm b.r.length cm') rfl rfl _ _ hrun ?_)
                                  go_roundg g'
                                  case measure => omega
                                  case rel => exact ⟨some ⟨bb, o + 3, none⟩, hc - 1, bs, n + 1, b.l, p', c', r ++ b.r, by omega, by omega, by omega, by rw [List.length_append]; omega, HN, H8', HPE⟩
                              · have y0 : ((b.s : Int) == (n : Int)) = false := beq_eq_false_iff_ne.2 (by omega)
                                have HPE : Hid (passP x.n x.d x.r z0 = (n, d, r, b :: bs)) := by show _ = _; rw [HP.out, passP, if_neg heq]
                                clear HP heq htl hrl hKb hs64 H8' e1 e2 hb8
                                go_wp2_with fail
                                go_quiet (fail)
                                clear e0
                                clear b5 b6
                                obtain ⟨W1, hW1⟩ : ∃ W1, wr.drewN nq = W1 := ⟨_, rfl⟩
                                rw [hW1]
                                have hbq : Below wr.heap.size wr W1 := by rw [← hW1]; exact below_drewN (Below.refl _ _) _
                                have HJ := HI.out.kept hbq
                                obtain ⟨hth8, X8, hX8, hld8, hsX8, hkX8⟩ := put_row W1 (w.heap.size + 1 + 1) _ 68 HJ.res [.int .u64 (x.m.qb : Int), .int .u64 (x.m.qn : Int), .int .i64 x.m.at_, .int .i64 x.m.fr, .int .i64 x.m.tq, .int .u64 (n : Int), .slice (some ⟨bb, o, none⟩) (bs.length + 1) hc, .slice p r.length c, .bool d] rfl Try.underlying68 rfl sz_In
                                have hzz : passI ⟨x.m, x.n, z0, x.r, x.d⟩ = ⟨x.m, n, b :: bs, r, d⟩ := by unfold passI; rw [HPE.out]
                                have HTK : Hid (TakR w 0 (passI ⟨x.m, x.n, z0, x.r, x.d⟩) (.returned (.tuple #[.agg #[.int .u64 (x.m.qb : Int), .int .u64 (x.m.qn : Int), .int .i64 x.m.at_, .int .i64 x.m.fr, .int .i64 x.m.tq, .int .u64 (n : Int), .slice (some ⟨bb, o, none⟩) (bs.length + 1) hc, .slice p r.length c, .bool d], .int .i64 0])) X8) := by
                                  rw [hzz]
                                  have hbig := HJ.big
                                  have hBW := HBW.out
                                  obtain ⟨_, _, e9, l9⟩ := OwnK.list mRow (P := fun _ => True) (bytes := 24) HJ.rows (fun b hb => ⟨(HJ.lt b hb).1, (HJ.lt b hb).2, trivial⟩) (fun _ _ => trivial) (by omega)
                                  rw [← e9] at l9
                                  have kk : ∀ (Q : Nat → Prop), (∀ b, Q b → w1.heap.size ≤ b) → Kept Q W1 X8 := fun Q hQ => hkX8.less fun b hb => by have := hQ b hb; show b ≠ _; omega
                                  refine ⟨[.int .u64 (x.m.qb : Int), .int .u64 (x.m.qn : Int), .int .i64 x.m.at_, .int .i64 x.m.fr, .int .i64 x.m.tq, .int .u64 (n : Int), .slice (some ⟨bb, o, none⟩) (bs.length + 1) hc, .slice p r.length c, .bool d], rfl, ⟨_, _, rfl, ⟨HOK.out, by show n < _; omega⟩, HJ.held.mono mBat (fun b h => ⟨by have := (HJ.lt b h).1; omega, by have := (HJ.lt b h).2; omega⟩) (kk _ fun b h => (HJ.lt b h).1), l9.mono mRow (fun b h => ⟨by have := h.1.1; omega, by have := h.1.2; omega⟩) (kk _ fun b h => h.1.1)⟩, ?_⟩
                                  have hb := HJ.bel
                                  exact ⟨hkX8.os.trans hb.os, hkX8.tape.trans hb.tape, hkX8.output.trans hb.output, by have := hb.size; omega, fun b h => (hkX8.block b (by show b ≠ _; omega)).trans (hb.block b h)⟩
                                have HR8 : Hid (W1.rangeAt w.heap.size 0 [.int .u64 (x.m.qb : Int), .int .u64 (x.m.qn : Int), .int .i64 x.m.at_, .int .i64 x.m.fr, .int .i64 x.m.tq, .int .u64 (n : Int), .slice (some ⟨bb, o, none⟩) (bs.length + 1) hc, .slice p r.length c, .bool d]) := fun j u hu => by rw [Nat.zero_add]; exact cell_of_row HJ.box (by simpa using hu)
                                have HT8 : Hid (W1.there (w.heap.size + 1 + 1) 0 9) := hth8
                                have HX8 : Hid (W1.setCells (w.heap.size + 1 + 1) 0 (#[.int .u64 (x.m.qb : Int), .int .u64 (x.m.qn : Int), .int .i64 x.m.at_, .int .i64 x.m.fr, .int .i64 x.m.tq, .int .u64 (n : Int), .slice (some ⟨bb, o, none⟩) (bs.length + 1) hc, .slice p r.length c, .bool d] : Array Value).toList = X8) := hX8
                                have HL8 : Hid ((loadVar 68 ⟨w.heap.size + 1 + 1, 0, none⟩).run Try.prog X8 = .ok (.agg #[.int .u64 (x.m.qb : Int), .int .u64 (x.m.qn : Int), .int .i64 x.m.at_, .int .i64 x.m.fr, .int .i64 x.m.tq, .int .u64 (n : Int), .slice (some ⟨bb, o, none⟩) (bs.length + 1) hc, .slice p r.length c, .bool d]) X8) := hld8
                                have HO8 : Hid ((#[.int .u64 (x.m.qb : Int), .int .u64 (x.m.qn : Int), .int .i64 x.m.at_, .int .i64 x.m.fr, .int .i64 x.m.tq, .int .u64 (n : Int), .slice (some ⟨bb, o, none⟩) (bs.length + 1) hc, .slice p r.length c, .bool d] : Array Value).all (·.oneCell') = true) := by show _ = _; simp [Value.oneCell']
                                clear hth8 hX8 hld8 hsX8 hkX8 HJ HI hW1 hbq hzz
                                go_wp2_with (first | (refine wpList_load_mid rfl 68 _ rfl w.heap.size 0 rfl _ _ HR8.out Try.underlying68 rfl sz_In ?_) | (refine wpList_store_mid rfl 68 _ _ rfl (w.heap.size + 1 + 1) 0 #[.int .u64 (x.m.qb : Int), .int .u64 (x.m.qn : Int), .int .i64 x.m.at_, .int .i64 x.m.fr, .int .i64 x.m.tq, .int .u64 (n : Int), .slice (some ⟨bb, o, none⟩) (bs.length + 1) hc, .slice p r.length c, .bool d] rfl rfl HT8.out sz_In HO8.out ?_; rw [HX8.out]))
                                refine bodyPost_ret (v := .tuple #[.agg #[.int .u64 (x.m.qb : Int), .int .u64 (x.m.qn : Int), .int .i64 x.m.at_, .int .i64 x.m.fr, .int .i64 x.m.tq, .int .u64 (n : Int), .slice (some ⟨bb, o, none⟩) (bs.length + 1) hc, .slice p r.length c, .bool d], .int .i64 0]) (by simp only [results, Try.results19]; simp [asAddr, Act.put, HL8.out]) rfl ?_
                                rw [HTP.out, HE2.out]
                                exact HTK.out
                      · have hpf : pt = false := by rw [HPT.out]; exact decide_eq_false hkl
                        have hgx1 : wr.heap[xb]? = some (.cells #[.int .u64 (y.s : Int), .bool y.l, .slice pb y.r.length cb] 91 (0, 0)) := (HJ.out.bel.block _ HGX.out.2).trans HGX.out.1
                        have d0 := cell_of_row (k := 0) (v := .int .u64 (y.s : Int)) hgx1 rfl
                        have d1 := cell_of_row (k := 1) (v := .bool y.l) hgx1 rfl
                        have d2 := cell_of_row (k := 2) (v := .slice pb y.r.length cb) hgx1 rfl
                        have hbl := bld_len ⟨y.s, y.l, y.r⟩ x.h x.h.length
                        obtain ⟨pn, cn, Y, hrun, hJ1, _⟩ := HJ.out.push (fun b h => (HKV.out b h).2) HRX.out rfl (by omega)
                        have hlz0 : (bldB ⟨y.s, y.l, y.r⟩ x.h x.h.length).length + 1 = z0.length := by rw [← HZ0.out, ← bld_end _ _ (by rw [HK9.out]; exact hkl)]; simp
                        rw [bld_end _ _ (by rw [HK9.out]; exact hkl), HZ0.out] at hJ1
                        rw [hlz0] at hrun hJ1
                        obtain ⟨Y0, hY0⟩ : ∃ Y0, Y0 = wr := ⟨_, rfl⟩
                        subst hY0
                        subst hpf
                        clear HJ HPT hkl hlz0 hbl hgx1
                        obtain ⟨g0', g2', hbV', hbig'⟩ := HBX.out
                        have hgY : Y.heap[w.heap.size]? = some (.cells ([.int .u64 (x.m.qb : Int), .int .u64 (x.m.qn : Int), .int .i64 x.m.at_, .int .i64 x.m.fr, .int .i64 x.m.tq, .int .u64 (x.n : Int), .slice p1 x.h.length r1, .slice p2 x.r.length r2, .bool x.d] : List Value).toArray 68 (0, 0)) := (hJ1.bel.block _ (Array.getElem?_eq_some_iff.1 g0').1).trans g0'
                        obtain ⟨Y1, hY1, c6, f6, hgY1, hsY1, hkY1⟩ := box_put hgY (k := 6) (u := .slice p1 x.h.length r1) rfl (.slice pn z0.length cn)
                        have hgY1' : Y1.heap[w.heap.size]? = some (.cells #[.int .u64 (x.m.qb : Int), .int .u64 (x.m.qn : Int), .int .i64 x.m.at_, .int .i64 x.m.fr, .int .i64 x.m.tq, .int .u64 (x.n : Int), .slice pn z0.length cn, .slice p2 x.r.length r2, .bool x.d] 68 (0, 0)) := hgY1
                        obtain ⟨KL, hKL⟩ : ∃ KL : Nat → Prop, KL = fun b => KK b ∨ (Value.slice pn z0.length cn).ownBlock = some b := ⟨_, rfl⟩
                        have hz4 : z0.length ≤ 4 := by rw [← HZ0.out, insB_length]; omega
                        have hownV : ∀ g, (Value.slice pn z0.length cn).ownBlock = some g → V.heap.size ≤ g ∧ g < Y.heap.size := fun g hg => by obtain ⟨_, o9, _⟩ := hJ1.own; exact o9.lt g hg
                        have hsz := hJ1.bel.size
                        have hwz := HZ1.out
                        have hKLlt : ∀ g, KL g → w1.heap.size ≤ g ∧ g < Y.heap.size := fun g hg => by
                          rw [hKL] at hg
                          rcases hg with h | h
                          · have := HKV.out g h; exact ⟨this.1, by omega⟩
                          · have := hownV g h; exact ⟨by omega, this.2⟩
                        have hkKL : Kept KL Y Y1 := hkY1.less fun g hg => by have := (hKLlt g hg).1; show g ≠ _; omega
                        have hlz : ListIs rBat 3 40 KL Y (.slice pn z0.length cn) z0 := by
                          obtain ⟨cells, o9, r9⟩ := hJ1.own
                          obtain ⟨hl, ⟨e, hn0⟩ | ⟨g, cap, cur, e, hbg, hg, hnc, hcm, hcs, htake⟩⟩ := o9
                          · obtain ⟨rfl, _, rfl⟩ : pn = none ∧ z0.length = 0 ∧ cn = 0 := by simpa using e
                            exact ⟨none, 0, rfl, ⟨by omega, by omega⟩, fun h => by omega⟩
                          · cases e
                            refine ⟨_, _, rfl, ⟨by omega, hnc⟩, fun _ => ⟨g, 0, rfl, by rw [hKL]; exact .inr rfl, fun j hj => ⟨_, ?_, fun i u hu => ?_, mBat _ _ _ _ _ _ (fun b h => by rw [hKL]; exact .inl h) (Kept.refl _ _) (r9 j hj)⟩⟩⟩
                            · rw [List.length_take, List.length_drop, hl]; omega
                            · have hi : i < 3 := by
                                have := (List.getElem?_eq_some_iff.1 hu).1
                                rw [List.length_take] at this; omega
                              rw [List.getElem?_take_of_lt hi, List.getElem?_drop, ← htake, List.getElem?_take_of_lt (by omega)] at hu
                              rw [Nat.zero_add]
                              exact cell_of_row hg (by simpa using hu)
                        have hown2 : ∀ g, (Value.slice p2 x.r.length r2).ownBlock = some g → w1.heap.size ≤ g ∧ g < V.heap.size := fun g hg => by obtain ⟨_, o9, _⟩ := HOR.out; exact o9.lt g hg
                        have HI0 : Hid (PasT x w.heap.size (w.heap.size + 1 + 1) w1.heap.size KL w Y1 pn cn z0 x.n x.d p2 r2 x.r) := by
                          refine ⟨hlz.mono mBat (fun _ h => h) hkKL, ?_, fun g hg h => ?_, fun g hg => ⟨(hKLlt g hg).1, by have := (hKLlt g hg).2; omega⟩, by omega, ?_, hgY1', ?_⟩
                          · obtain ⟨c9, o9, r9⟩ := HOR.out
                            have hkk : Kept (fun b => KK b ∨ (Value.slice p2 x.r.length r2).ownBlock = some b) V Y1 := (kept_of (fun b h => h.elim (fun h => (HKV.out b h).2) (fun h => (hown2 b h).2)) hJ1.bel).trans (hkY1.less fun b h => by show b ≠ _; rcases h with h | h; have := (HKV.out b h).1; omega; have := (hown2 b h).1; omega)
                            exact ⟨c9, owns_kept o9 (fun g hg => hkk.block g (.inr hg)), fun j hj => mRow _ _ _ _ _ _ (fun b h => by rw [hKL]; exact .inl h) (hkk.less fun b h => .inl h) (r9 j hj)⟩
                          · rw [hKL] at h
                            rcases h with h | h
                            · exact HKO.out g hg h
                            · have := (hownV g h).1; have := (hown2 g hg).2; omega
                          · have hb := hbV'.trans (hJ1.bel.mono hbV'.size)
                            exact ⟨hkY1.os.trans hb.os, hkY1.tape.trans hb.tape, hkY1.output.trans hb.output, by have := hb.size; omega, fun b h => (hkY1.block b (by show b ≠ _; omega)).trans (hb.block b h)⟩
                          · exact (hkY1.block _ (by show _ ≠ _; omega)).trans ((hJ1.bel.block _ (Array.getElem?_eq_some_iff.1 g2').1).trans g2')
                        have H80 : Hid (∀ b ∈ z0, b.r.length ≤ 8) := fun b hb => by
                          rw [← HZ0.out] at hb
                          unfold insB at hb
                          rw [List.mem_append, List.mem_cons] at hb
                          rcases hb with hb | rfl | hb
                          · exact HNS.out.2.2.2.1 b (List.mem_of_mem_take hb)
                          · exact HY8.out
                          · exact HNS.out.2.2.2.1 b (List.mem_of_mem_drop hb)
                        have hcz : z0.length ≤ cn := by obtain ⟨_, _, e, h9, _⟩ := hlz; cases e; exact h9.2
                        have hnb : x.n + z0.length ≤ 1000000 ∧ x.r.length + 8 * z0.length ≤ 1000000 := by have := HNS.out; omega
                        have HBW : Hid (w.heap.size ≤ w.heap.size ∧ w.heap.size < w1.heap.size ∧ w.heap.size + 1 + 1 < w1.heap.size) := ⟨by omega, by omega, by omega⟩
                        clear g0' g2' hbV' hbig' hgY hgY1 hgY1' hsY1 hkY1 hKLlt hkKL hlz hown2 hownV hsz hwz hJ1 hKL hz4 HOR HLS HKO HGX HBX
                        go_wp2_with (at_builtin; refine Lib.wpList_append_run _ rfl _ _ _ _ rfl u (.slice (some ⟨Y0.heap.size, 0, none⟩) 1 1) rfl rfl _ _ hrun ?_)
                        as_aux_lemma =>
                          go_loopg [11] z0.length (fun gf s11 wx => ∃ (hq : Option Addr) (hc : Nat) (rest : List Bat) (n : Nat) (d : Bool) (p : Option Addr) (c : Nat) (r : List (List Val)), rest.length ≤ gf ∧ rest.length ≤ hc ∧ n + rest.length ≤ 1000000 ∧ r.length + 8 * rest.length ≤ 1000000 ∧ Hid (PasT x w.heap.size (w.heap.size + 1 + 1) w1.heap.size KL w wx hq hc rest n d p c r) ∧ Hid (∀ b ∈ rest, b.r.length ≤ 8) ∧ Hid (passP x.n x.d x.r z0 = passP n d r rest))
                          case atStart => exact ⟨_, _, z0, x.n, x.d, _, _, x.r, Nat.le_refl _, hcz, hnb.1, hnb.2, HI0, H80, rfl⟩
                          case round =>
                            clear HI0 H80 hcz hnb c6 f6 hY1
                            obtain ⟨hq, hc, rest, n, d, p, c, r, hgf, hcq, hnn, hrr, HI, H8, HP⟩ := hrel
                            have b5 := cell_of_row (k := 5) (v := .int .u64 (n : Int)) HI.out.box rfl
                            have b6 := cell_of_row (k := 6) (v := .slice hq rest.length hc) HI.out.box rfl
                            cases rest with
                            | nil =>
                              clear H8
                              have HPE : Hid (passP x.n x.d x.r z0 = (n, d, r, [])) := HP.out
                              clear HP
                              simp only [List.length_nil] at hgf hcq hnn hrr b6
                              go_wp2_with fail
                              go_quiet (fail)
                              clear b5 b6
                              obtain ⟨W1, hW1⟩ : ∃ W1, wr.drewN nq = W1 := ⟨_, rfl⟩
                              rw [hW1]
                              have hbq : Below wr.heap.size wr W1 := by rw [← hW1]; exact below_drewN (Below.refl _ _) _
                              have HJ := HI.out.kept hbq
                              obtain ⟨hth8, X8, hX8, hld8, hsX8, hkX8⟩ := put_row W1 (w.heap.size + 1 + 1) _ 68 HJ.res [.int .u64 (x.m.qb : Int), .int .u64 (x.m.qn : Int), .int .i64 x.m.at_, .int .i64 x.m.fr, .int .i64 x.m.tq, .int .u64 (n : Int), .slice hq 0 hc, .slice p r.length c, .bool d] rfl Try.underlying68 rfl sz_In
                              have hzz : passI ⟨x.m, x.n, z0, x.r, x.d⟩ = ⟨x.m, n, [], r, d⟩ := by unfold passI; rw [HPE.out]
                              have HTK : Hid (TakR w 0 (passI ⟨x.m, x.n, z0, x.r, x.d⟩) (.returned (.tuple #[.agg #[.int .u64 (x.m.qb : Int), .int .u64 (x.m.qn : Int), .int .i64 x.m.at_, .int .i64 x.m.fr, .int .i64 x.m.tq, .int .u64 (n : Int), .slice hq 0 hc, .slice p r.length c, .bool d], .int .i64 0])) X8) := by
                                rw [hzz]
                                have hbig := HJ.big
                                have hBW := HBW.out
                                obtain ⟨_, _, e9, l9⟩ := OwnK.list mRow (P := fun _ => True) (bytes := 24) HJ.rows (fun b hb => ⟨(HJ.lt b hb).1, (HJ.lt b hb).2, trivial⟩) (fun _ _ => trivial) (by omega)
                                rw [← e9] at l9
                                have kk : ∀ (Q : Nat → Prop), (∀ b, Q b → w1.heap.size ≤ b) → Kept Q W1 X8 := fun Q hQ => hkX8.less fun b hb => by have := hQ b hb; show b ≠ _; omega
                                refine ⟨[.int .u64 (x.m.qb : Int), .int .u64 (x.m.qn : Int), .int .i64 x.m.at_, .int .i64 x.m.fr, .int .i64 x.m.tq, .int .u64 (n : Int), .slice hq 0 hc, .slice p r.length c, .bool d], rfl, ⟨_, _, rfl, ⟨HOK.out, by show n < _; omega⟩, HJ.held.mono mBat (fun b h => ⟨by have := (HJ.lt b h).1; omega, by have := (HJ.lt b h).2; omega⟩) (kk _ fun b h => (HJ.lt b h).1), l9.mono mRow (fun b h => ⟨by have := h.1.1; omega, by have := h.1.2; omega⟩) (kk _ fun b h => h.1.1)⟩, ?_⟩
                                have hb := HJ.bel
                                exact ⟨hkX8.os.trans hb.os, hkX8.tape.trans hb.tape, hkX8.output.trans hb.output, by have := hb.size; omega, fun b h => (hkX8.block b (by show b ≠ _; omega)).trans (hb.block b h)⟩
                              have HR8 : Hid (W1.rangeAt w.heap.size 0 [.int .u64 (x.m.qb : Int), .int .u64 (x.m.qn : Int), .int .i64 x.m.at_, .int .i64 x.m.fr, .int .i64 x.m.tq, .int .u64 (n : Int), .slice hq 0 hc, .slice p r.length c, .bool d]) := fun j u hu => by rw [Nat.zero_add]; exact cell_of_row HJ.box (by simpa using hu)
                              have HT8 : Hid (W1.there (w.heap.size + 1 + 1) 0 9) := hth8
                              have HX8 : Hid (W1.setCells (w.heap.size + 1 + 1) 0 (#[.int .u64 (x.m.qb : Int), .int .u64 (x.m.qn : Int), .int .i64 x.m.at_, .int .i64 x.m.fr, .int .i64 x.m.tq, .int .u64 (n : Int), .slice hq 0 hc, .slice p r.length c, .bool d] : Array Value).toList = X8) := hX8
                              have HL8 : Hid ((loadVar 68 ⟨w.heap.size + 1 + 1, 0, none⟩).run Try.prog X8 = .ok (.agg #[.int .u64 (x.m.qb : Int), .int .u64 (x.m.qn : Int), .int .i64 x.m.at_, .int .i64 x.m.fr, .int .i64 x.m.tq, .int .u64 (n : Int), .slice hq 0 hc, .slice p r.length c, .bool d]) X8) := hld8
                              have HO8 : Hid ((#[.int .u64 (x.m.qb : Int), .int .u64 (x.m.qn : Int), .int .i64 x.m.at_, .int .i64 x.m.fr, .int .i64 x.m.tq, .int .u64 (n : Int), .slice hq 0 hc, .slice p r.length c, .bool d] : Array Value).all (·.oneCell') = true) := by show _ = _; simp [Value.oneCell']
                              clear hth8 hX8 hld8 hsX8 hkX8 HJ HI hW1 hbq hzz
                              go_wp2_with (first | (refine wpList_load_mid rfl 68 _ rfl w.heap.size 0 rfl _ _ HR8.out Try.underlying68 rfl sz_In ?_) | (refine wpList_store_mid rfl 68 _ _ rfl (w.heap.size + 1 + 1) 0 #[.int .u64 (x.m.qb : Int), .int .u64 (x.m.qn : Int), .int .i64 x.m.at_, .int .i64 x.m.fr, .int .i64 x.m.tq, .int .u64 (n : Int), .slice hq 0 hc, .slice p r.length c, .bool d] rfl rfl HT8.out sz_In HO8.out ?_; rw [HX8.out]))
                              refine bodyPost_ret (v := .tuple #[.agg #[.int .u64 (x.m.qb : Int), .int .u64 (x.m.qn : Int), .int .i64 x.m.at_, .int .i64 x.m.fr, .int .i64 x.m.tq, .int .u64 (n : Int), .slice hq 0 hc, .slice p r.length c, .bool d], .int .i64 0]) (by simp only [results, Try.results19]; simp [asAddr, Act.put, HL8.out]) rfl ?_
                              rw [HTP.out, HE2.out]
                              exact HTK.out
                            | cons b bs =>
                              obtain ⟨g', rfl⟩ : ∃ g', gk = g' + 1 := ⟨gk - 1, by simp at hgf; omega⟩
                              obtain ⟨bb, o, pm, cm', rfl, hKb, e0, e1, e2, hs64, hrl⟩ := bat_at HI.out.held 0 (by simp)
                              simp only [Nat.zero_mul, Nat.add_zero, List.getElem_cons_zero] at e0 e1 e2 hs64 hrl
                              have hb8 : b.r.length ≤ 8 := H8.out b (by simp)
                              have H8' : Hid (∀ y ∈ bs, y.r.length ≤ 8) := fun y hy => H8.out y (by simp [hy])
                              have htl := bat_tail HI.out.held
                              simp only [List.length_cons] at hgf hcq hnn hrr b6
                              have z0' : (0 : Int) < (bs.length : Int) + 1 := by omega
                              have z9 : bs.length ≤ 1000000 := by omega
                              clear H8
                              by_cases heq : b.s = n
                              · have y0 : ((b.s : Int) == (n : Int)) = true := by simp; omega
                                have HPE : Hid (passP x.n x.d x.r z0 = passP (n + 1) b.l (r ++ b.r) bs) := by show _ = _; rw [HP.out, passP, if_pos heq]
                                clear HP heq
                                go_wp2_with fail
                                go_quiet (fail)
                                obtain ⟨W1, hW1⟩ : ∃ W1, wr.drewN nq = W1 := ⟨_, rfl⟩
                                rw [hW1]
                                have hbq : Below wr.heap.size wr W1 := by rw [← hW1]; exact below_drewN (Below.refl _ _) _
                                have hcq1 : ∀ g k, W1.cell? ⟨g, k, none⟩ = wr.cell? ⟨g, k, none⟩ := fun g k => by rw [← hW1]; rfl
                                have hsq : W1.heap.size = wr.heap.size := by rw [← hW1]; rfl
                                obtain ⟨W2, hW2⟩ : ∃ W2, W1.alloc (.cells #[.int .u64 (b.s : Int), .bool b.l, .slice pm b.r.length cm'] 91) = W2 := ⟨_, rfl⟩
                                have hb2 : Below W1.heap.size W1 W2 := by rw [← hW2]; exact (Below.refl _ _).alloc (Nat.le_refl _) _
                                have hg2 : W2.heap[W1.heap.size]? = some (.cells #[.int .u64 (b.s : Int), .bool b.l, .slice pm b.r.length cm'] 91 (0, 0)) := by rw [← hW2]; exact heap_alloc_new _ _
                                have hs2 : W2.heap.size = W1.heap.size + 1 := by rw [← hW2]; simp
                                have hbw2 : Below wr.heap.size wr W2 := hbq.trans (hb2.mono hbq.size)
                                have HJ2 := HI.out.kept hbw2
                                have hk2 : Kept KL wr W2 := kept_of (fun g h => (HI.out.lt g h).2) hbw2
                                have hnob : (Value.slice p r.length c).ownBlock ≠ some W1.heap.size := fun e => by obtain ⟨_, o9, _⟩ := HI.out.rows; have := (o9.lt _ e).2; omega
                                have hlw : w.heap.size < W1.heap.size := by have := HI.out.big; have := HBW.out; omega
                                obtain ⟨p', c', X2, hrun, hc7, hf7, X3, hX3, hc5, hf5, X4, hX4, hc6, hf6, hfin⟩ := HJ2.step ⟨by omega, HBW.out.2.1⟩ ⟨by omega, HBW.out.2.2⟩ (by omega) (hrl.mono mRow (fun _ h => h) hk2) (by omega) (bx := W1.heap.size) ⟨by omega, by omega, hnob⟩
                                have d6 : W1.cell? ⟨w.heap.size, 6, none⟩ = some (.slice (some ⟨bb, o, none⟩) (bs.length + 1) hc) := by rw [hcq1]; exact b6
                                have d0 : W1.cell? ⟨bb, o, none⟩ = some (.int .u64 (b.s : Int)) := by rw [hcq1]; exact e0
                                have d1 : W1.cell? ⟨bb, o + 1, none⟩ = some (.bool b.l) := by rw [hcq1]; exact e1
                                have d2 : W1.cell? ⟨bb, o + 2, none⟩ = some (.slice pm b.r.length cm') := by rw [hcq1]; exact e2
                                have x2 := cell_of_row (k := 2) (v := .slice pm b.r.length cm') hg2 rfl
                                have x1 := cell_of_row (k := 1) (v := .bool b.l) hg2 rfl
                                have x7 := cell_of_row (k := 7) (v := .slice p r.length c) HJ2.box rfl
                                have hn1 : ((n : Int) + 1) % 18446744073709551616 = (n : Int) + 1 := by omega
                                clear hW1 hbq hcq1 hsq hb2 hg2 hs2 hbw2 HJ2 hnob hlw hrl HI b5 b6 e0 e1 e2 hKb
                                simp only [List.length_cons] at hc6
                                by_cases hq1 : hc = 1
                                · obtain ⟨hl0, hl1⟩ := htl.2 hq1
                                  subst hq1
                                  have hbn : bs = [] := List.eq_nil_of_length_eq_zero hl0
                                  subst hbn
                                  obtain ⟨X5, hX5, hc8, hf8, hbc, X6, hX6, hP6⟩ := hfin _ _ (hl1.mono mBat (fun _ h => h) hk2)
                                  have x1' : X5.cell? ⟨W1.heap.size, 1, none⟩ = some (.bool b.l) := (hbc 1).trans x1
                                  have HN := hid hP6
                                  simp only [List.length_nil] at *
                                  clear hfin htl hl0 hl1 hbc x1 hk2 hP6
                                  go_wp2_with (at_builtin; refine Lib.wpList_append_run _ rfl _ _ _ _ rfl (.slice p r.length c) (.slice pm b.r.length cm') rfl rfl _ _ hrun ?_)
                                  go_roundg g'
                                  case measure => omega
                                  case rel => exact ⟨some ⟨bb, o, none⟩, 0, [], n + 1, b.l, p', c', r ++ b.r, by simp, by simp, by simp at *; omega, by simp at *; omega, HN, H8', HPE⟩
                                · obtain ⟨X5, hX5, hc8, hf8, hbc, X6, hX6, hP6⟩ := hfin _ _ (htl.1.mono mBat (fun _ h => h) hk2)
                                  have x1' : X5.cell? ⟨W1.heap.size, 1, none⟩ = some (.bool b.l) := (hbc 1).trans x1
                                  have HN := hid hP6
                                  have zq : 1 ≤ hc := by omega
                                  clear hfin htl hbc x1 hk2 hP6
                                  go_wp2_with (at_builtin; refine Lib.wpList_append_run _ rfl _ _ _ _ rfl (.slice p r.length c) (.slice pm b.r.length cm') rfl rfl _ _ hrun ?_)
                                  go_roundg g'
                                  case measure => omega
                                  case rel => exact ⟨some ⟨bb, o + 3, none⟩, hc - 1, bs, n + 1, b.l, p', c', r ++ b.r, by omega, by omega, by omega, by rw [List.length_append]; omega, HN, H8', HPE⟩
                              · have y0 : ((b.s : Int) == (n : Int)) = false := beq_eq_false_iff_ne.2 (by omega)
                                have HPE : Hid (passP x.n x.d x.r z0 = (n, d, r, b :: bs)) := by show _ = _; rw [HP.out, passP, if_neg heq]
                                clear HP heq htl hrl hKb hs64 H8' e1 e2 hb8
                                go_wp2_with fail
                                go_quiet (fail)
                                clear e0
                                clear b5 b6
                                obtain ⟨W1, hW1⟩ : ∃ W1, wr.drewN nq = W1 := ⟨_, rfl⟩
                                rw [hW1]
                                have hbq : Below wr.heap.size wr W1 := by rw [← hW1]; exact below_drewN (Below.refl _ _) _
                                have HJ := HI.out.kept hbq
                                obtain ⟨hth8, X8, hX8, hld8, hsX8, hkX8⟩ := put_row W1 (w.heap.size + 1 + 1) _ 68 HJ.res [.int .u64 (x.m.qb : Int), .int .u64 (x.m.qn : Int), .int .i64 x.m.at_, .int .i64 x.m.fr, .int .i64 x.m.tq, .int .u64 (n : Int), .slice (some ⟨bb, o, none⟩) (bs.length + 1) hc, .slice p r.length c, .bool d] rfl Try.underlying68 rfl sz_In
                                have hzz : passI ⟨x.m, x.n, z0, x.r, x.d⟩ = ⟨x.m, n, b :: bs, r, d⟩ := by unfold passI; rw [HPE.out]
                                have HTK : Hid (TakR w 0 (passI ⟨x.m, x.n, z0, x.r, x.d⟩) (.returned (.tuple #[.agg #[.int .u64 (x.m.qb : Int), .int .u64 (x.m.qn : Int), .int .i64 x.m.at_, .int .i64 x.m.fr, .int .i64 x.m.tq, .int .u64 (n : Int), .slice (some ⟨bb, o, none⟩) (bs.length + 1) hc, .slice p r.length c, .bool d], .int .i64 0])) X8) := by
                                  rw [hzz]
                                  have hbig := HJ.big
                                  have hBW := HBW.out
                                  obtain ⟨_, _, e9, l9⟩ := OwnK.list mRow (P := fun _ => True) (bytes := 24) HJ.rows (fun b hb => ⟨(HJ.lt b hb).1, (HJ.lt b hb).2, trivial⟩) (fun _ _ => trivial) (by omega)
                                  rw [← e9] at l9
                                  have kk : ∀ (Q : Nat → Prop), (∀ b, Q b → w1.heap.size ≤ b) → Kept Q W1 X8 := fun Q hQ => hkX8.less fun b hb => by have := hQ b hb; show b ≠ _; omega
                                  refine ⟨[.int .u64 (x.m.qb : Int), .int .u64 (x.m.qn : Int), .int .i64 x.m.at_, .int .i64 x.m.fr, .int .i64 x.m.tq, .int .u64 (n : Int), .slice (some ⟨bb, o, none⟩) (bs.length + 1) hc, .slice p r.length c, .bool d], rfl, ⟨_, _, rfl, ⟨HOK.out, by show n < _; omega⟩, HJ.held.mono mBat (fun b h => ⟨by have := (HJ.lt b h).1; omega, by have := (HJ.lt b h).2; omega⟩) (kk _ fun b h => (HJ.lt b h).1), l9.mono mRow (fun b h => ⟨by have := h.1.1; omega, by have := h.1.2; omega⟩) (kk _ fun b h => h.1.1)⟩, ?_⟩
                                  have hb := HJ.bel
                                  exact ⟨hkX8.os.trans hb.os, hkX8.tape.trans hb.tape, hkX8.output.trans hb.output, by have := hb.size; omega, fun b h => (hkX8.block b (by show b ≠ _; omega)).trans (hb.block b h)⟩
                                have HR8 : Hid (W1.rangeAt w.heap.size 0 [.int .u64 (x.m.qb : Int), .int .u64 (x.m.qn : Int), .int .i64 x.m.at_, .int .i64 x.m.fr, .int .i64 x.m.tq, .int .u64 (n : Int), .slice (some ⟨bb, o, none⟩) (bs.length + 1) hc, .slice p r.length c, .bool d]) := fun j u hu => by rw [Nat.zero_add]; exact cell_of_row HJ.box (by simpa using hu)
                                have HT8 : Hid (W1.there (w.heap.size + 1 + 1) 0 9) := hth8
                                have HX8 : Hid (W1.setCells (w.heap.size + 1 + 1) 0 (#[.int .u64 (x.m.qb : Int), .int .u64 (x.m.qn : Int), .int .i64 x.m.at_, .int .i64 x.m.fr, .int .i64 x.m.tq, .int .u64 (n : Int), .slice (some ⟨bb, o, none⟩) (bs.length + 1) hc, .slice p r.length c, .bool d] : Array Value).toList = X8) := hX8
                                have HL8 : Hid ((loadVar 68 ⟨w.heap.size + 1 + 1, 0, none⟩).run Try.prog X8 = .ok (.agg #[.int .u64 (x.m.qb : Int), .int .u64 (x.m.qn : Int), .int .i64 x.m.at_, .int .i64 x.m.fr, .int .i64 x.m.tq, .int .u64 (n : Int), .slice (some ⟨bb, o, none⟩) (bs.length + 1) hc, .slice p r.length c, .bool d]) X8) := hld8
                                have HO8 : Hid ((#[.int .u64 (x.m.qb : Int), .int .u64 (x.m.qn : Int), .int .i64 x.m.at_, .int .i64 x.m.fr, .int .i64 x.m.tq, .int .u64 (n : Int), .slice (some ⟨bb, o, none⟩) (bs.length + 1) hc, .slice p r.length c, .bool d] : Array Value).all (·.oneCell') = true) := by show _ = _; simp [Value.oneCell']
                                clear hth8 hX8 hld8 hsX8 hkX8 HJ HI hW1 hbq hzz
                                go_wp2_with (first | (refine wpList_load_mid rfl 68 _ rfl w.heap.size 0 rfl _ _ HR8.out Try.underlying68 rfl sz_In ?_) | (refine wpList_store_mid rfl 68 _ _ rfl (w.heap.size + 1 + 1) 0 #[.int .u64 (x.m.qb : Int), .int .u64 (x.m.qn : Int), .int .i64 x.m.at_, .int .i64 x.m.fr, .int .i64 x.m.tq, .int .u64 (n : Int), .slice (some ⟨bb, o, none⟩) (bs.length + 1) hc, .slice p r.length c, .bool d] rfl rfl HT8.out sz_In HO8.out ?_; rw [HX8.out]))
                                refine bodyPost_ret (v := .tuple #[.agg #[.int .u64 (x.m.qb : Int), .int .u64 (x.m.qn : Int), .int .i64 x.m.at_, .int .i64 x.m.fr, .int .i64 x.m.tq, .int .u64 (n : Int), .slice (some ⟨bb, o, none⟩) (bs.length + 1) hc, .slice p r.length c, .bool d], .int .i64 0]) (by simp only [results, Try.results19]; simp [asAddr, Act.put, HL8.out]) rfl ?_
                                rw [HTP.out, HE2.out]
                                exact HTK.out
  · have t0 : ((y.k : Int) != 4) = true := bne_iff_ne.2 (by omega)
    have HER : Hid (refG x y = 5) := by show _ = _; unfold refG; rw [if_pos hk4]
    have HTP : Hid (takeG x y = x) := by show _ = _; unfold takeG; rw [if_neg (by rw [HER.out]; decide)]
    obtain ⟨hth8, X8, hX8, hld8, hsX8, hkX8⟩ := put_row W3 (w.heap.size + 1 + 1) _ 68 v3 [.int .u64 (x.m.qb : Int), .int .u64 (x.m.qn : Int), .int .i64 x.m.at_, .int .i64 x.m.fr, .int .i64 x.m.tq, .int .u64 (x.n : Int), .slice p1 x.h.length r1, .slice p2 x.r.length r2, .bool x.d] rfl Try.underlying68 rfl sz_In
    have HTK : Hid (TakR w 5 x (.returned (.tuple #[.agg #[.int .u64 (x.m.qb : Int), .int .u64 (x.m.qn : Int), .int .i64 x.m.at_, .int .i64 x.m.fr, .int .i64 x.m.tq, .int .u64 (x.n : Int), .slice p1 x.h.length r1, .slice p2 x.r.length r2, .bool x.d], .int .i64 5])) X8) := by
      refine ⟨[.int .u64 (x.m.qb : Int), .int .u64 (x.m.qn : Int), .int .i64 x.m.at_, .int .i64 x.m.fr, .int .i64 x.m.tq, .int .u64 (x.n : Int), .slice p1 x.h.length r1, .slice p2 x.r.length r2, .bool x.d], rfl, mIn _ _ _ _ _ _ (fun b hb => ⟨by have := hb.1; have := HZ1.out; omega, by have := hb.2; omega⟩) (hkX8.less fun b hb => by have := hb.1; have := HZ1.out; show b ≠ _; omega) (HLH.out W3 v6), ⟨hkX8.os.trans v4.os, hkX8.tape.trans v4.tape, hkX8.output.trans v4.output, by have := v4.size; omega, fun b hb => (hkX8.block b (by show b ≠ _; omega)).trans (v4.block b hb)⟩⟩
    have HR8 : Hid (W3.rangeAt w.heap.size 0 [.int .u64 (x.m.qb : Int), .int .u64 (x.m.qn : Int), .int .i64 x.m.at_, .int .i64 x.m.fr, .int .i64 x.m.tq, .int .u64 (x.n : Int), .slice p1 x.h.length r1, .slice p2 x.r.length r2, .bool x.d]) := fun j u hu => by rw [Nat.zero_add]; exact cell_of_row v1 (by simpa using hu)
    have HT8 : Hid (W3.there (w.heap.size + 1 + 1) 0 9) := hth8
    have HX8 : Hid (W3.setCells (w.heap.size + 1 + 1) 0 (#[.int .u64 (x.m.qb : Int), .int .u64 (x.m.qn : Int), .int .i64 x.m.at_, .int .i64 x.m.fr, .int .i64 x.m.tq, .int .u64 (x.n : Int), .slice p1 x.h.length r1, .slice p2 x.r.length r2, .bool x.d] : Array Value).toList = X8) := hX8
    have HL8 : Hid ((loadVar 68 ⟨w.heap.size + 1 + 1, 0, none⟩).run Try.prog X8 = .ok (.agg #[.int .u64 (x.m.qb : Int), .int .u64 (x.m.qn : Int), .int .i64 x.m.at_, .int .i64 x.m.fr, .int .i64 x.m.tq, .int .u64 (x.n : Int), .slice p1 x.h.length r1, .slice p2 x.r.length r2, .bool x.d]) X8) := hld8
    clear hk4 v1 v2 v3 v4 v5 v6 v7 v8 v9 hth8 hX8 hld8 hsX8 hkX8
    go_wp2_with (first | (refine wpList_store_mid rfl 68 _ _ rfl w.heap.size 0 #[.int .u64 (x.m.qb : Int), .int .u64 (x.m.qn : Int), .int .i64 x.m.at_, .int .i64 x.m.fr, .int .i64 x.m.tq, .int .u64 (x.n : Int), .slice p1 x.h.length r1, .slice p2 x.r.length r2, .bool x.d] rfl rfl HTH.out sz_In HON.out ?_; rw [HW3.out]) | (refine wpList_load_mid rfl 68 _ rfl w.heap.size 0 rfl _ _ HR8.out Try.underlying68 rfl sz_In ?_) | (refine wpList_store_mid rfl 68 _ _ rfl (w.heap.size + 1 + 1) 0 #[.int .u64 (x.m.qb : Int), .int .u64 (x.m.qn : Int), .int .i64 x.m.at_, .int .i64 x.m.fr, .int .i64 x.m.tq, .int .u64 (x.n : Int), .slice p1 x.h.length r1, .slice p2 x.r.length r2, .bool x.d] rfl rfl HT8.out sz_In HON.out ?_; rw [HX8.out]))
    refine bodyPost_ret (v := .tuple #[.agg #[.int .u64 (x.m.qb : Int), .int .u64 (x.m.qn : Int), .int .i64 x.m.at_, .int .i64 x.m.fr, .int .i64 x.m.tq, .int .u64 (x.n : Int), .slice p1 x.h.length r1, .slice p2 x.r.length r2, .bool x.d], .int .i64 5]) (by simp only [results, Try.results19]; simp [asAddr, Act.put, HL8.out]) rfl ?_
    rw [HTP.out, HER.out]
    exact HTK.out
end Go.Proofs.Ytcmiphgeakdonaa
