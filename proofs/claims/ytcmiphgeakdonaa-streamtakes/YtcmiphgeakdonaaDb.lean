/- Any message: a stream with it. -/
import Derived.Test.YtcmiphgeakdonaaDa
namespace Go.Proofs.Ytcmiphgeakdonaa
open Go.Shelf Go.RowKit Go.Lib Go.Sort
set_option linter.unusedVariables false
set_option linter.unusedSimpArgs false
attribute [local go_sem ↓] Go.wp_at_zero Go.wp_at_succ
def takeG (x : In_) (y : Ms) : In_ := if refG x y = 0 then passI ⟨x.m, x.n, insB ⟨y.s, y.l, y.r⟩ x.h, x.r, x.d⟩ else x
set_option maxRecDepth 100000 in
set_option maxHeartbeats 4000000 in
theorem take_good (cs cl : List Value) (x : In_) (y : Ms) (K : Nat → Prop) (w : World) (h : rIn K w cs x) (hin : inE x = 0) (h' : rMs K w cl y) (hk256 : y.k < 256) (hK : ∀ b, K b → b < w.heap.size) :
    Calls Try.prog 18 #[.agg cs.toArray, .agg cl.toArray] w fun e w' => TakR w (refG x y) (takeG x y) e w' := by
  obtain ⟨i1, i2, i3, i4⟩ := inE_ok hin
  have hh3 : x.h.length ≤ 3 := by have := held_len x.h x.n x.n false i3 (by omega); omega
  have hrow := held_rows x.h x.n x.n false i3
  obtain ⟨q, c, q2, c2, rfl, hok, hn64, hl, hcap, hby, hl2, hcap2, hby2⟩ := in_cells2 h
  obtain ⟨hlen, k0, k2, k3, k4, k5, k6, k37, k38, ⟨qm, cm, k39, hlm⟩, hs64, _⟩ := id h'
  obtain ⟨W0, hW0, hb0, hs0, g0, g1, g2⟩ := three_boxes w #[.int .u64 (x.m.qb : Int), .int .u64 (x.m.qn : Int), .int .i64 x.m.at_, .int .i64 x.m.fr, .int .i64 x.m.tq, .int .u64 (x.n : Int), .slice q x.h.length c, .slice q2 x.r.length c2, .bool x.d] cl.toArray #[.int .u64 0, .int .u64 0, .int .i64 0, .int .i64 0, .int .i64 0, .int .u64 0, .slice none 0 0, .slice none 0 0, .bool false] 68 62 68
  have HV : Hid (∀ V, Below W0.heap.size W0 V → V.rangeAt w.heap.size 0 [.int .u64 (x.m.qb : Int), .int .u64 (x.m.qn : Int), .int .i64 x.m.at_, .int .i64 x.m.fr, .int .i64 x.m.tq, .int .u64 (x.n : Int), .slice q x.h.length c, .slice q2 x.r.length c2, .bool x.d] ∧ V.rangeAt (w.heap.size + 1) 0 cl ∧ V.heap[w.heap.size + 1 + 1]? = some (.cells #[.int .u64 0, .int .u64 0, .int .i64 0, .int .i64 0, .int .i64 0, .int .u64 0, .slice none 0 0, .slice none 0 0, .bool false] 68 (0, 0)) ∧ Below w.heap.size w V ∧ rIn K V [.int .u64 (x.m.qb : Int), .int .u64 (x.m.qn : Int), .int .i64 x.m.at_, .int .i64 x.m.fr, .int .i64 x.m.tq, .int .u64 (x.n : Int), .slice q x.h.length c, .slice q2 x.r.length c2, .bool x.d] x ∧ rMs K V cl y ∧ (∀ b, K b → b < V.heap.size) ∧ ListIs rRow 1 24 K V (.slice qm y.r.length cm) y.r) := fun V hb => by
    have hbw := hb0.trans (hb.mono hb0.size)
    have hkk := kept_of hK hbw
    exact ⟨fun j u hu => by rw [Nat.zero_add]; exact cell_of_row ((hb.block _ (by omega)).trans g0) (by simpa using hu), fun j u hu => by rw [Nat.zero_add]; exact cell_of_row ((hb.block _ (by omega)).trans g1) (by simpa using hu), (hb.block _ (by omega)).trans g2, hbw, mIn _ _ _ _ _ _ (fun _ h => h) hkk h, mMs _ _ _ _ _ _ (fun _ h => h) hkk h', fun b hb' => Nat.lt_of_lt_of_le (hK b hb') hbw.size, hlm.mono mRow (fun _ h => h) hkk⟩
  obtain ⟨v1, v2, v3, v4, v5, v6, v7, v8⟩ := HV.out W0 (Below.refl _ _)
  have C1 : Hid (Calls Try.prog 21 #[.agg #[.int .u64 (x.m.qb : Int), .int .u64 (x.m.qn : Int), .int .i64 x.m.at_, .int .i64 x.m.fr, .int .i64 x.m.tq, .int .u64 (x.n : Int), .slice q x.h.length c, .slice q2 x.r.length c2, .bool x.d]] W0 fun e w' => e = .returned (.int .i64 0) ∧ Below W0.heap.size W0 w') := by have := checkIn_any _ x K W0 v5 v7; rw [hin] at this; exact this
  have HR0 : Hid (W0.rangeAt w.heap.size 0 [.int .u64 (x.m.qb : Int), .int .u64 (x.m.qn : Int), .int .i64 x.m.at_, .int .i64 x.m.fr, .int .i64 x.m.tq, .int .u64 (x.n : Int), .slice q x.h.length c, .slice q2 x.r.length c2, .bool x.d]) := v1
  have SZM : Hid ((Try.prog.info? 62).map (·.size) = some cl.length) := by show _ = _; rw [hlen]; exact sz_Msg
  have HS0 : Hid (W0.heap.size = w.heap.size + 3) := hs0
  have HM : Hid (y.k < 256) := hk256
  have HOK : Hid (okS x.m) := hok
  have HNS : Hid (x.n ≤ 512 ∧ x.r.length ≤ 8 * x.n ∧ x.h.length ≤ 3 ∧ (∀ b ∈ x.h, b.r.length ≤ 8) ∧ y.s < 18446744073709551616 ∧ True) := ⟨i1, i2, hh3, hrow, hs64, trivial⟩
  have HCL : Hid (cl[37]? = some (.int .u64 (y.s : Int)) ∧ cl[38]? = some (.bool y.l) ∧ cl[39]? = some (.slice qm y.r.length cm)) := ⟨k37, k38, k39⟩
  clear h hin h' hk256 hK i1 i2 i3 i4 hh3 hrow hl hcap hby hl2 hcap2 hby2 hok hn64 hlm hs64 hb0 hs0 g0 g1 g2 v1 v2 v3 v4 v5 v6 v7 v8 hlen k0 k2 k3 k4 k5 k6 k37 k38 k39
  go_enter Try.func18, Try.ntmps18
  go_wp2_with (refine wpList_load_mid rfl 68 _ rfl w.heap.size 0 rfl _ _ HR0.out Try.underlying68 rfl sz_In ?_)
  refine C1.out.mono ?_
  rintro e w1 ⟨rfl, hb1⟩
  obtain ⟨v1, v2, v3, v4, v5, v6, v7, v8⟩ := HV.out w1 hb1
  have HR1 : Hid (w1.rangeAt w.heap.size 0 [.int .u64 (x.m.qb : Int), .int .u64 (x.m.qn : Int), .int .i64 x.m.at_, .int .i64 x.m.fr, .int .i64 x.m.tq, .int .u64 (x.n : Int), .slice q x.h.length c, .slice q2 x.r.length c2, .bool x.d]) := v1
  have HB1 : Hid (Below W0.heap.size W0 w1) := hb1
  have C2 := hid (f_InO K w1 _ x v5 v7)
  clear v1 v2 v3 v4 v5 v6 v7 v8 hb1 C1 HR0 hW0
  go_wp2_with (refine wpList_load_mid rfl 68 _ rfl w.heap.size 0 rfl _ _ HR1.out Try.underlying68 rfl sz_In ?_)
  refine C2.out.mono ?_
  rintro e w2 ⟨p1, r1, p2, r2, rfl, hI2, hb2⟩
  obtain ⟨WA, hWA, hth, WS, hWS, hrs, hss, hbs, hrl⟩ := box_new w2 68 #[.int .u64 0, .int .u64 0, .int .i64 0, .int .i64 0, .int .i64 0, .int .u64 0, .slice none 0 0, .slice none 0 0, .bool false] [.int .u64 (x.m.qb : Int), .int .u64 (x.m.qn : Int), .int .i64 x.m.at_, .int .i64 x.m.fr, .int .i64 x.m.tq, .int .u64 (x.n : Int), .slice p1 x.h.length r1, .slice p2 x.r.length r2, .bool x.d] rfl
  have hB2 : Below W0.heap.size W0 w2 := HB1.out.trans (hb2.mono HB1.out.size)
  have hBS : Below W0.heap.size W0 WS := hB2.trans (hbs.mono hB2.size)
  obtain ⟨v1, v2, v3, v4, v5, v6, v7, v8⟩ := HV.out WS hBS
  have hIS : OwnI (fun b => b < w2.heap.size) w1.heap.size WS (.slice p1 x.h.length r1) (.slice p2 x.r.length r2) x.h x.r := hI2.below hbs
  have hLH : ∀ V, OwnI (fun b => b < w2.heap.size) w1.heap.size V (.slice p1 x.h.length r1) (.slice p2 x.r.length r2) x.h x.r → rIn (From w1.heap.size V) V [.int .u64 (x.m.qb : Int), .int .u64 (x.m.qn : Int), .int .i64 x.m.at_, .int .i64 x.m.fr, .int .i64 x.m.tq, .int .u64 (x.n : Int), .slice p1 x.h.length r1, .slice p2 x.r.length r2, .bool x.d] x := fun V hv => by
    obtain ⟨_, _, e1, l1⟩ := hv.held.list mBat (bytes := 40) (by have := HNS.out; omega)
    obtain ⟨_, _, e2, l2⟩ := hv.rows.list mRow (bytes := 24) (by have := HNS.out; omega)
    rw [← e1] at l1
    rw [← e2] at l2
    exact ⟨_, _, rfl, ⟨HOK.out, by have := HNS.out; omega⟩, l1, l2⟩
  have HLH := hid hLH
  have hs64 := HNS.out
  have C3 : Hid (Calls Try.prog 38 #[.agg #[.int .u64 (x.m.qb : Int), .int .u64 (x.m.qn : Int), .int .i64 x.m.at_, .int .i64 x.m.fr, .int .i64 x.m.tq, .int .u64 (x.n : Int), .slice p1 x.h.length r1, .slice p2 x.r.length r2, .bool x.d], .agg cl.toArray] WS fun e w' => e = .returned (.int .i64 (refG x y)) ∧ Below WS.heap.size WS w') :=
    refuse_all _ _ x y (fun b => b < WS.heap.size) WS (mIn _ _ _ _ _ _ (fun b hb => hb.2) ⟨rfl, rfl, rfl, Nat.le_refl _, fun _ _ => rfl⟩ (hLH WS hIS)) (by omega) (mMs _ _ _ _ _ _ v7 ⟨rfl, rfl, rfl, Nat.le_refl _, fun _ _ => rfl⟩ v6) HM.out (fun b hb => hb)
  have HTH : Hid (WA.there w2.heap.size 0 9) := hth
  have HWS : Hid (WA.setCells w2.heap.size 0 (#[.int .u64 (x.m.qb : Int), .int .u64 (x.m.qn : Int), .int .i64 x.m.at_, .int .i64 x.m.fr, .int .i64 x.m.tq, .int .u64 (x.n : Int), .slice p1 x.h.length r1, .slice p2 x.r.length r2, .bool x.d] : Array Value).toList = WS) := hWS
  have HRS : Hid (WS.rangeAt w2.heap.size 0 [.int .u64 (x.m.qb : Int), .int .u64 (x.m.qn : Int), .int .i64 x.m.at_, .int .i64 x.m.fr, .int .i64 x.m.tq, .int .u64 (x.n : Int), .slice p1 x.h.length r1, .slice p2 x.r.length r2, .bool x.d]) := hrs
  have HRM : Hid (WS.rangeAt (w.heap.size + 1) 0 cl) := v2
  have HON : Hid ((#[.int .u64 (x.m.qb : Int), .int .u64 (x.m.qn : Int), .int .i64 x.m.at_, .int .i64 x.m.fr, .int .i64 x.m.tq, .int .u64 (x.n : Int), .slice p1 x.h.length r1, .slice p2 x.r.length r2, .bool x.d] : Array Value).all (·.oneCell') = true) := by show _ = _; simp [Value.oneCell']
  have HIS := hid hIS
  have HBS : Hid (Below W0.heap.size W0 WS) := hBS
  have HZ2 : Hid (w2.heap.size < WS.heap.size ∧ w1.heap.size ≤ w2.heap.size ∧ W0.heap.size ≤ w1.heap.size) := ⟨by omega, hb2.size, HB1.out.size⟩
  have HI2L : Hid (∀ g, (Value.slice p1 x.h.length r1).ownBlock = some g ∨ (Value.slice p2 x.r.length r2).ownBlock = some g → g < w2.heap.size) := fun g hg => hg.elim (fun h => (hI2.held.block g h).2) (fun h => (hI2.rows.block g h).2)
  have HG7 : Hid (∃ zz : Array Value, zz.size = 9 ∧ WS.heap[w2.heap.size]? = some (.cells zz 68 (0, 0))) := by
    have hgA : WA.heap[w2.heap.size]? = some (.cells #[.int .u64 0, .int .u64 0, .int .i64 0, .int .i64 0, .int .i64 0, .int .u64 0, .slice none 0 0, .slice none 0 0, .bool false] 68 (0, 0)) := by rw [← hWA]; exact heap_alloc_new w2 _
    obtain ⟨_, X, hX, _, _, _⟩ := put_row WA w2.heap.size _ 68 hgA [.int .u64 (x.m.qb : Int), .int .u64 (x.m.qn : Int), .int .i64 x.m.at_, .int .i64 x.m.fr, .int .i64 x.m.tq, .int .u64 (x.n : Int), .slice p1 x.h.length r1, .slice p2 x.r.length r2, .bool x.d] rfl Try.underlying68 rfl sz_In
    refine ⟨#[.int .u64 (x.m.qb : Int), .int .u64 (x.m.qn : Int), .int .i64 x.m.at_, .int .i64 x.m.fr, .int .i64 x.m.tq, .int .u64 (x.n : Int), .slice p1 x.h.length r1, .slice p2 x.r.length r2, .bool x.d], rfl, ?_⟩
    rw [← hWS]
    exact box_full WA w2.heap.size #[.int .u64 0, .int .u64 0, .int .i64 0, .int .i64 0, .int .i64 0, .int .u64 0, .slice none 0 0, .slice none 0 0, .bool false] 68 hgA [.int .u64 (x.m.qb : Int), .int .u64 (x.m.qn : Int), .int .i64 x.m.at_, .int .i64 x.m.fr, .int .i64 x.m.tq, .int .u64 (x.n : Int), .slice p1 x.h.length r1, .slice p2 x.r.length r2, .bool x.d] rfl
  clear hth hWS hrs hss hbs hrl hI2 hb2 hB2 hBS v1 v2 v3 v4 v5 v6 v7 v8 hIS hLH hs64 C2 HB1 HR1
  go_wp2_with (first | (refine wpList_store_mid rfl 68 _ _ rfl w2.heap.size 0 #[.int .u64 (x.m.qb : Int), .int .u64 (x.m.qn : Int), .int .i64 x.m.at_, .int .i64 x.m.fr, .int .i64 x.m.tq, .int .u64 (x.n : Int), .slice p1 x.h.length r1, .slice p2 x.r.length r2, .bool x.d] rfl rfl HTH.out sz_In HON.out ?_; rw [HWS.out]) | (refine wpList_load_mid rfl 68 _ rfl w2.heap.size 0 rfl _ _ HRS.out Try.underlying68 rfl sz_In ?_) | (refine wpList_load_mid rfl 62 _ rfl (w.heap.size + 1) 0 rfl _ _ HRM.out Try.underlying62 rfl SZM.out ?_))
  refine C3.out.mono ?_
  rintro e w3 ⟨rfl, hb3⟩
  have HRW : Hid (WS.rangeAt w2.heap.size 0 [.int .u64 (x.m.qb : Int), .int .u64 (x.m.qn : Int), .int .i64 x.m.at_, .int .i64 x.m.fr, .int .i64 x.m.tq, .int .u64 (x.n : Int), .slice p1 x.h.length r1, .slice p2 x.r.length r2, .bool x.d]) := HRS.out
  clear C3 HTH HWS HRS HRM hWA
  obtain ⟨E, hE⟩ : ∃ E, refG x y = E := ⟨_, rfl⟩
  rw [hE]
  have HEE : Hid (refG x y = E) := hE
  by_cases hE0 : E = 0
  · subst hE0
    obtain ⟨z, hz⟩ : ∃ z, passI ⟨x.m, x.n, insB ⟨y.s, y.l, y.r⟩ x.h, x.r, x.d⟩ = z := ⟨_, rfl⟩
    have HTP : Hid (takeG x y = z) := by show _ = _; unfold takeG; rw [if_pos hE]; exact hz
    obtain ⟨w4, hw4⟩ : ∃ w4, w3.drew = w4 := ⟨_, rfl⟩
    have hb4 : Below WS.heap.size WS w4 := by rw [← hw4]; exact hb3.drew
    have hB4 : Below W0.heap.size W0 w4 := HBS.out.trans (hb4.mono HBS.out.size)
    obtain ⟨v1, v2, v3, v4, v5, v6, v7, v8⟩ := HV.out w4 hB4
    have hSof : ∀ V : World, V.heap[w.heap.size + 1]? = w4.heap[w.heap.size + 1]? → (V.cell? ⟨w.heap.size + 1, 37, none⟩ = some (.int .u64 (y.s : Int)) ∧ V.cell? ⟨w.heap.size + 1, 38, none⟩ = some (.bool y.l) ∧ V.cell? ⟨w.heap.size + 1, 39, none⟩ = some (.slice qm y.r.length cm)) := fun V hV => by
      obtain ⟨k37, k38, k39⟩ := HCL.out
      have f : ∀ (k : Nat) (u : Value), cl[k]? = some u → V.cell? ⟨w.heap.size + 1, k, none⟩ = some u := fun k u hu => by
        rw [World.cell?_of_block (a := ⟨w.heap.size + 1, k, none⟩) hV]
        have := v2 k u hu
        rwa [Nat.zero_add] at this
      exact ⟨f 37 _ k37, f 38 _ k38, f 39 _ k39⟩
    have C18 : Hid (Calls Try.prog 27 #[.slice qm y.r.length cm] w4 fun e w' => ∃ u, e = .returned u ∧ OwnR rRow 1 96 w4.heap.size w' u y.r ∧ Below w4.heap.size w4 w') := f_rowsO K w4 _ _ v8 v7
    have hI4 : OwnI (fun b => b ≠ w2.heap.size) w1.heap.size w4 (.slice p1 x.h.length r1) (.slice p2 x.r.length r2) x.h x.r := (HIS.out.below hb4).imp (fun b hb => by omega)
    obtain ⟨z1, z2, z3⟩ := HZ2.out
    obtain ⟨n1, n2, n3, n4, n5, _⟩ := HNS.out
    have n6 : y.r.length ≤ 8 := refG_zero hE
    have s4 := hb4.size
    have hs0 := HS0.out
    have HNX : Hid (∀ (w5 : World) (pb : Option Addr) (cb : Nat), OwnR rRow 1 96 w4.heap.size w5 (.slice pb y.r.length cb) y.r → Below w4.heap.size w4 w5 →
        (fun V : World => V.cell? ⟨w.heap.size + 1, 37, none⟩ = some (.int .u64 (y.s : Int)) ∧ V.cell? ⟨w.heap.size + 1, 38, none⟩ = some (.bool y.l) ∧ V.cell? ⟨w.heap.size + 1, 39, none⟩ = some (.slice qm y.r.length cm)) w5 ∧ w5.rangeAt w2.heap.size 0 [.int .u64 (x.m.qb : Int), .int .u64 (x.m.qn : Int), .int .i64 x.m.at_, .int .i64 x.m.fr, .int .i64 x.m.tq, .int .u64 (x.n : Int), .slice p1 x.h.length r1, .slice p2 x.r.length r2, .bool x.d] ∧ Calls Try.prog 40 #[.agg #[.int .u64 (x.m.qb : Int), .int .u64 (x.m.qn : Int), .int .i64 x.m.at_, .int .i64 x.m.fr, .int .i64 x.m.tq, .int .u64 (x.n : Int), .slice p1 x.h.length r1, .slice p2 x.r.length r2, .bool x.d], .agg #[.int .u64 (y.s : Int), .bool y.l, .slice pb y.r.length cb]] w5 fun e w6 => ∃ p3 r3, e = .returned (.agg #[.int .u64 (x.m.qb : Int), .int .u64 (x.m.qn : Int), .int .i64 x.m.at_, .int .i64 x.m.fr, .int .i64 x.m.tq, .int .u64 (x.n : Int), .slice p3 (insB ⟨y.s, y.l, y.r⟩ x.h).length r3, .slice p2 x.r.length r2, .bool x.d]) ∧ (fun V : World => V.cell? ⟨w.heap.size + 1, 37, none⟩ = some (.int .u64 (y.s : Int)) ∧ V.cell? ⟨w.heap.size + 1, 38, none⟩ = some (.bool y.l) ∧ V.cell? ⟨w.heap.size + 1, 39, none⟩ = some (.slice qm y.r.length cm)) w6 ∧
          Calls Try.prog 39 #[.agg #[.int .u64 (x.m.qb : Int), .int .u64 (x.m.qn : Int), .int .i64 x.m.at_, .int .i64 x.m.fr, .int .i64 x.m.tq, .int .u64 (x.n : Int), .slice p3 (insB ⟨y.s, y.l, y.r⟩ x.h).length r3, .slice p2 x.r.length r2, .bool x.d]] w6 fun e w7 => ∃ q7 c7 q8 c8, e = .returned (.agg #[.int .u64 (z.m.qb : Int), .int .u64 (z.m.qn : Int), .int .i64 z.m.at_, .int .i64 z.m.fr, .int .i64 z.m.tq, .int .u64 (z.n : Int), .slice q7 z.h.length c7, .slice q8 z.r.length c8, .bool z.d]) ∧ (fun V : World => V.cell? ⟨w.heap.size + 1, 37, none⟩ = some (.int .u64 (y.s : Int)) ∧ V.cell? ⟨w.heap.size + 1, 38, none⟩ = some (.bool y.l) ∧ V.cell? ⟨w.heap.size + 1, 39, none⟩ = some (.slice qm y.r.length cm)) w7 ∧ w7.there w2.heap.size 0 9 ∧
            ∃ X7, w7.setCells w2.heap.size 0 [.int .u64 (z.m.qb : Int), .int .u64 (z.m.qn : Int), .int .i64 z.m.at_, .int .i64 z.m.fr, .int .i64 z.m.tq, .int .u64 (z.n : Int), .slice q7 z.h.length c7, .slice q8 z.r.length c8, .bool z.d] = X7 ∧ (fun V : World => V.cell? ⟨w.heap.size + 1, 37, none⟩ = some (.int .u64 (y.s : Int)) ∧ V.cell? ⟨w.heap.size + 1, 38, none⟩ = some (.bool y.l) ∧ V.cell? ⟨w.heap.size + 1, 39, none⟩ = some (.slice qm y.r.length cm)) X7 ∧ X7.rangeAt w2.heap.size 0 [.int .u64 (z.m.qb : Int), .int .u64 (z.m.qn : Int), .int .i64 z.m.at_, .int .i64 z.m.fr, .int .i64 z.m.tq, .int .u64 (z.n : Int), .slice q7 z.h.length c7, .slice q8 z.r.length c8, .bool z.d] ∧ X7.there (w.heap.size + 1 + 1) 0 9 ∧ ∃ X8, X7.setCells (w.heap.size + 1 + 1) 0 [.int .u64 (z.m.qb : Int), .int .u64 (z.m.qn : Int), .int .i64 z.m.at_, .int .i64 z.m.fr, .int .i64 z.m.tq, .int .u64 (z.n : Int), .slice q7 z.h.length c7, .slice q8 z.r.length c8, .bool z.d] = X8 ∧ (loadVar 68 ⟨w.heap.size + 1 + 1, 0, none⟩).run Try.prog X8 = .ok (.agg #[.int .u64 (z.m.qb : Int), .int .u64 (z.m.qn : Int), .int .i64 z.m.at_, .int .i64 z.m.fr, .int .i64 z.m.tq, .int .u64 (z.n : Int), .slice q7 z.h.length c7, .slice q8 z.r.length c8, .bool z.d]) X8 ∧ TakR w 0 z (.returned (.tuple #[.agg #[.int .u64 (z.m.qb : Int), .int .u64 (z.m.qn : Int), .int .i64 z.m.at_, .int .i64 z.m.fr, .int .i64 z.m.tq, .int .u64 (z.n : Int), .slice q7 z.h.length c7, .slice q8 z.r.length c8, .bool z.d], .int .i64 0])) X8) := fun w5 pb cb ho5 hb5 => by
      have s5 := hb5.size
      have hI5 := hI4.below hb5
      obtain ⟨_, _, e5, l5⟩ := ho5.list mRow (bytes := 24) (by omega)
      rw [← e5] at l5
      obtain ⟨zz, hzz, hg7⟩ := HG7.out
      have hgT4 : w4.heap[w2.heap.size]? = some (.cells zz 68 (0, 0)) := (hb4.block _ z1).trans hg7
      have hr4 : w4.rangeAt w2.heap.size 0 [.int .u64 (x.m.qb : Int), .int .u64 (x.m.qn : Int), .int .i64 x.m.at_, .int .i64 x.m.fr, .int .i64 x.m.tq, .int .u64 (x.n : Int), .slice p1 x.h.length r1, .slice p2 x.r.length r2, .bool x.d] := fun j u hu => by rw [hb4.cell (p := ⟨w2.heap.size, _, none⟩) z1]; exact HRW.out j u hu
      refine ⟨hSof w5 (hb5.block _ (by omega)), fun j u hu => by rw [hb5.cell (p := ⟨w2.heap.size, _, none⟩) (by show w2.heap.size < _; omega)]; exact hr4 j u hu, ?_⟩
      refine (hold_any x p1 p2 r1 r2 ⟨y.s, y.l, y.r⟩ pb cb (From w4.heap.size w5) (fun b => b ≠ w2.heap.size) w1.heap.size w5 hI5 l5 (fun g hg => ⟨by have := hg.1; omega, hg.2, fun e => by have := HI2L.out g (.inl e); have := hg.1; omega, fun e => by have := HI2L.out g (.inr e); have := hg.1; omega, by have := hg.1; omega⟩) (fun g hg => by omega) (by omega) n5 (by omega)).mono ?_
      rintro e w6 ⟨p3, r3, rfl, hI6, hb6, hk6, ho6⟩
      rw [← insB_length ⟨y.s, y.l, y.r⟩ x.h] at hI6 ⊢
      have s6 := hb6.size
      refine ⟨p3, r3, rfl, hSof w6 ((hb6.block _ (by omega)).trans (hb5.block _ (by omega))), ?_⟩
      refine (pass_any ⟨x.m, x.n, insB ⟨y.s, y.l, y.r⟩ x.h, x.r, x.d⟩ p3 p2 r3 r2 (fun b => b ≠ w2.heap.size) w1.heap.size w6 hI6 (by omega) (by rw [insB_length]; show x.n + _ ≤ _; omega) (by rw [insB_length]; show x.r.length + _ ≤ _; omega) (fun b hb => ?_) (fun g hg => by omega)).mono ?_
      · unfold insB at hb
        rw [List.mem_append, List.mem_cons] at hb
        rcases hb with hb | rfl | hb
        · exact n4 b (List.mem_of_mem_take hb)
        · exact n6
        · exact n4 b (List.mem_of_mem_drop hb)
      rintro e w7 ⟨⟨q7, c7, q8, c8, rfl, l7, l8, hb7⟩, hk7⟩
      rw [hz] at l7 l8 ⊢
      have s7 := hb7.size
      have hgT7 : w7.heap[w2.heap.size]? = some (.cells zz 68 (0, 0)) :=
        (hk7.block _ ⟨by omega, fun e => by have := HI2L.out _ (.inr e); omega⟩).trans ((hk6.block _ ⟨by omega, fun e => by have := HI2L.out _ (.inl e); omega⟩).trans ((hb5.block _ (by omega)).trans hgT4))
      obtain ⟨hth7, X7, hX7, _, hsX7, hkX7⟩ := put_row w7 w2.heap.size zz 68 hgT7 [.int .u64 (z.m.qb : Int), .int .u64 (z.m.qn : Int), .int .i64 z.m.at_, .int .i64 z.m.fr, .int .i64 z.m.tq, .int .u64 (z.n : Int), .slice q7 z.h.length c7, .slice q8 z.r.length c8, .bool z.d] (by rw [hzz]; rfl) Try.underlying68 rfl sz_In
      have hgX7 : X7.heap[w2.heap.size]? = some (.cells #[.int .u64 (z.m.qb : Int), .int .u64 (z.m.qn : Int), .int .i64 z.m.at_, .int .i64 z.m.fr, .int .i64 z.m.tq, .int .u64 (z.n : Int), .slice q7 z.h.length c7, .slice q8 z.r.length c8, .bool z.d] 68 (0, 0)) := by rw [← hX7]; exact box_full w7 w2.heap.size zz 68 hgT7 [.int .u64 (z.m.qb : Int), .int .u64 (z.m.qn : Int), .int .i64 z.m.at_, .int .i64 z.m.fr, .int .i64 z.m.tq, .int .u64 (z.n : Int), .slice q7 z.h.length c7, .slice q8 z.r.length c8, .bool z.d] (by rw [hzz]; rfl)
      have low : ∀ g, g < w1.heap.size → X7.heap[g]? = w4.heap[g]? := fun g hg => (hkX7.block g (by show g ≠ _; omega)).trans ((hb7.block g hg).trans ((hb6.block g hg).trans (hb5.block g (by omega))))
      have hgR : X7.heap[w.heap.size + 1 + 1]? = some (.cells #[.int .u64 0, .int .u64 0, .int .i64 0, .int .i64 0, .int .i64 0, .int .u64 0, .slice none 0 0, .slice none 0 0, .bool false] 68 (0, 0)) := (low _ (by omega)).trans v3
      obtain ⟨hth8, X8, hX8, hld8, hsX8, hkX8⟩ := put_row X7 (w.heap.size + 1 + 1) _ 68 hgR [.int .u64 (z.m.qb : Int), .int .u64 (z.m.qn : Int), .int .i64 z.m.at_, .int .i64 z.m.fr, .int .i64 z.m.tq, .int .u64 (z.n : Int), .slice q7 z.h.length c7, .slice q8 z.r.length c8, .bool z.d] rfl Try.underlying68 rfl sz_In
      refine ⟨q7, c7, q8, c8, rfl, hSof w7 ((hb7.block _ (by omega)).trans ((hb6.block _ (by omega)).trans (hb5.block _ (by omega)))), hth7, X7, hX7, hSof X7 (low _ (by omega)), fun j u hu => by rw [Nat.zero_add]; exact cell_of_row hgX7 (by simpa using hu), hth8, X8, hX8, hld8, ?_⟩
      have kk : Kept (fun b => From w1.heap.size w7 b ∧ b ≠ w2.heap.size) w7 X8 := (hkX7.less fun b hb => hb.2).trans (hkX8.less fun b hb => by have := hb.1.1; show b ≠ _; omega)
      have hfr : ∀ b, From w1.heap.size w7 b ∧ b ≠ w2.heap.size → From w.heap.size X8 b := fun b hb => ⟨by have := hb.1.1; omega, by have := hb.1.2; omega⟩
      refine ⟨[.int .u64 (z.m.qb : Int), .int .u64 (z.m.qn : Int), .int .i64 z.m.at_, .int .i64 z.m.fr, .int .i64 z.m.tq, .int .u64 (z.n : Int), .slice q7 z.h.length c7, .slice q8 z.r.length c8, .bool z.d], rfl, ⟨_, _, rfl, ⟨?_, ?_⟩, l7.mono mBat hfr kk, l8.mono mRow hfr kk⟩, ?_⟩
      · rw [← hz]; exact HOK.out
      · rw [← hz]
        have := passP_n (insB ⟨y.s, y.l, y.r⟩ x.h) x.n x.d x.r
        rw [insB_length] at this
        show (passP x.n x.d x.r (insB ⟨y.s, y.l, y.r⟩ x.h)).1 < _
        omega
      · have kl : Kept (fun b => b < w.heap.size) w4 X8 := ⟨hkX8.os.trans (hkX7.os.trans (hb7.os.trans (hb6.os.trans hb5.os))), hkX8.tape.trans (hkX7.tape.trans (hb7.tape.trans (hb6.tape.trans hb5.tape))), hkX8.output.trans (hkX7.output.trans (hb7.output.trans (hb6.output.trans hb5.output))), by omega, fun b hb => (hkX8.block b (by show b ≠ _; omega)).trans (low b (by omega))⟩
        exact ⟨kl.os.trans v4.os, kl.tape.trans v4.tape, kl.output.trans v4.output, by have := v4.size; have := kl.size; omega, fun b hb => (kl.block b hb).trans (v4.block b hb)⟩
    have HS4 : Hid ((fun V : World => V.cell? ⟨w.heap.size + 1, 37, none⟩ = some (.int .u64 (y.s : Int)) ∧ V.cell? ⟨w.heap.size + 1, 38, none⟩ = some (.bool y.l) ∧ V.cell? ⟨w.heap.size + 1, 39, none⟩ = some (.slice qm y.r.length cm)) w4) := hSof w4 rfl
    have HR4 : Hid (w4.rangeAt w2.heap.size 0 [.int .u64 (x.m.qb : Int), .int .u64 (x.m.qn : Int), .int .i64 x.m.at_, .int .i64 x.m.fr, .int .i64 x.m.tq, .int .u64 (x.n : Int), .slice p1 x.h.length r1, .slice p2 x.r.length r2, .bool x.d]) := fun j u hu => by rw [hb4.cell (p := ⟨w2.heap.size, _, none⟩) z1]; exact HRW.out j u hu
    clear hE hz hb3 hb4 hB4 v1 v2 v3 v4 v5 v6 v7 v8 hSof hI4 z1 z2 z3 n1 n2 n3 n4 n5 n6 s4 hs0
    go_wp2_with fail
    refine wp_region_held_drew (S := fun V => V.cell? ⟨w.heap.size + 1, 37, none⟩ = some (.int .u64 (y.s : Int)) ∧ V.cell? ⟨w.heap.size + 1, 38, none⟩ = some (.bool y.l) ∧ V.cell? ⟨w.heap.size + 1, 39, none⟩ = some (.slice qm y.r.length cm)) (by kernel_rfl) (by rw [hw4]; exact HS4.out) (fun hHeld => ?_)
    refine wpAnyH_take (i := 1) (v := .pointer (some ⟨w.heap.size + 1, 37, none⟩)) rfl (by kernel_rfl) (by kernel_rfl) (by kernel_rfl) (fun _ _ _ h => h) (.inl ⟨by rfl, fun W hW => by obtain ⟨h37, h38, h39⟩ := hW; go_simp⟩) hHeld ?_
    simp only [Act.put, List.getElem_toArray, List.getElem_cons_zero, List.getElem_cons_succ, List.setIfInBounds_toArray, List.set_cons_zero, List.set_cons_succ]
    refine wpAnyH_take (i := 2) (v := .int .u64 (y.s : Int)) rfl (by kernel_rfl) (by kernel_rfl) (by kernel_rfl) (fun _ _ _ h => h) (.inl ⟨by rfl, fun W hW => by obtain ⟨h37, h38, h39⟩ := hW; go_simp⟩) hHeld ?_
    simp only [Act.put, List.getElem_toArray, List.getElem_cons_zero, List.getElem_cons_succ, List.setIfInBounds_toArray, List.set_cons_zero, List.set_cons_succ]
    refine wpAnyH_take (i := 3) (v := .pointer (some ⟨w.heap.size + 1, 38, none⟩)) rfl (by kernel_rfl) (by kernel_rfl) (by kernel_rfl) (fun _ _ _ h => h) (.inl ⟨by rfl, fun W hW => by obtain ⟨h37, h38, h39⟩ := hW; go_simp⟩) hHeld ?_
    simp only [Act.put, List.getElem_toArray, List.getElem_cons_zero, List.getElem_cons_succ, List.setIfInBounds_toArray, List.set_cons_zero, List.set_cons_succ]
    refine wpAnyH_take (i := 4) (v := .bool y.l) rfl (by kernel_rfl) (by kernel_rfl) (by kernel_rfl) (fun _ _ _ h => h) (.inl ⟨by rfl, fun W hW => by obtain ⟨h37, h38, h39⟩ := hW; go_simp⟩) hHeld ?_
    simp only [Act.put, List.getElem_toArray, List.getElem_cons_zero, List.getElem_cons_succ, List.setIfInBounds_toArray, List.set_cons_zero, List.set_cons_succ]
    refine wpAnyH_take (i := 5) (v := .pointer (some ⟨w.heap.size + 1, 39, none⟩)) rfl (by kernel_rfl) (by kernel_rfl) (by kernel_rfl) (fun _ _ _ h => h) (.inl ⟨by rfl, fun W hW => by obtain ⟨h37, h38, h39⟩ := hW; go_simp⟩) hHeld ?_
    simp only [Act.put, List.getElem_toArray, List.getElem_cons_zero, List.getElem_cons_succ, List.setIfInBounds_toArray, List.set_cons_zero, List.set_cons_succ]
    refine wpAnyH_take (i := 6) (v := .slice qm y.r.length cm) rfl (by kernel_rfl) (by kernel_rfl) (by kernel_rfl) (fun _ _ _ h => h) (.inl ⟨by rfl, fun W hW => by obtain ⟨h37, h38, h39⟩ := hW; go_simp⟩) hHeld ?_
    simp only [Act.put, List.getElem_toArray, List.getElem_cons_zero, List.getElem_cons_succ, List.setIfInBounds_toArray, List.set_cons_zero, List.set_cons_succ]
    rw [hw4] at hHeld ⊢
    clear hw4
    refine wpAnyH_ready (rs := [0, 7]) (by kernel_rfl) (by simp) ?_
    refine AllReadyH.cons rfl (fun K' hK => ?_) ?_
    · rw [if_pos (by rfl)]
      refine wp_load_mid 68 (.tmp 7) rfl w2.heap.size 0 rfl _ _ HR4.out Try.underlying68 rfl sz_In ?_
      simp only [Act.put, List.getElem_toArray, List.getElem_cons_zero, List.getElem_cons_succ, List.setIfInBounds_toArray, List.set_cons_zero, List.set_cons_succ]
      refine hK.out _ _ hHeld (fun hHeld => ?_)
      clear hK K'
      refine wpAnyH_ready (rs := [7]) (by kernel_rfl) (by simp) ?_
      refine AllReadyH.cons rfl (fun K' hK => ?_) AllReadyH.nil
      rw [if_pos (by rfl)]
      go_simp
      go_at_call 27
      refine C18.out.mono ?_
      rintro e w5 ⟨u5, rfl, ho5, hb5⟩
      obtain ⟨pb, cb, rfl⟩ := ho5.slice
      obtain ⟨hS5, hr5, hC5⟩ := HNX.out w5 pb cb ho5 hb5
      have HR5 : Hid (w5.rangeAt w2.heap.size 0 [.int .u64 (x.m.qb : Int), .int .u64 (x.m.qn : Int), .int .i64 x.m.at_, .int .i64 x.m.fr, .int .i64 x.m.tq, .int .u64 (x.n : Int), .slice p1 x.h.length r1, .slice p2 x.r.length r2, .bool x.d]) := hr5
      have HC5 := hid hC5
      refine hK.out _ _ hS5 (fun hHeld => ?_)
      clear hK K' ho5 hb5 hr5 hC5 hS5
      refine wpAnyH_ready (rs := [8]) (by kernel_rfl) (by simp) ?_
      refine AllReadyH.cons rfl (fun K' hK => ?_) AllReadyH.nil
      rw [if_pos (by rfl)]
      go_simp
      refine hK.out _ _ hHeld (fun hHeld => ?_)
      clear hK K'
      refine wpAnyH_ready (rs := [9]) (by kernel_rfl) (by simp) ?_
      refine AllReadyH.cons rfl (fun K' hK => ?_) AllReadyH.nil
      rw [if_pos (by rfl)]
      go_simp
      go_at_call 40
      refine HC5.out.mono ?_
      rintro e w6 ⟨p3, r3, rfl, hS6, hC6⟩
      have HC6 := hid hC6
      refine hK.out _ _ hS6 (fun hHeld => ?_)
      clear hK K' hS6 hC6 HC5
      refine wpAnyH_ready (rs := [10]) (by kernel_rfl) (by simp) ?_
      refine AllReadyH.cons rfl (fun K' hK => ?_) AllReadyH.nil
      rw [if_pos (by rfl)]
      go_simp
      go_at_call 39
      refine HC6.out.mono ?_
      rintro e w7 ⟨q7, c7, q8, c8, rfl, hS7, hth7, X7, hX7, hSX7, hr7, hth8, X8, hX8, hld8, htk⟩
      have HT7 : Hid (w7.there w2.heap.size 0 9) := hth7
      have HX7 : Hid (w7.setCells w2.heap.size 0 (#[.int .u64 (z.m.qb : Int), .int .u64 (z.m.qn : Int), .int .i64 z.m.at_, .int .i64 z.m.fr, .int .i64 z.m.tq, .int .u64 (z.n : Int), .slice q7 z.h.length c7, .slice q8 z.r.length c8, .bool z.d] : Array Value).toList = X7) := hX7
      have HR7 : Hid (X7.rangeAt w2.heap.size 0 [.int .u64 (z.m.qb : Int), .int .u64 (z.m.qn : Int), .int .i64 z.m.at_, .int .i64 z.m.fr, .int .i64 z.m.tq, .int .u64 (z.n : Int), .slice q7 z.h.length c7, .slice q8 z.r.length c8, .bool z.d]) := hr7
      have HT8 : Hid (X7.there (w.heap.size + 1 + 1) 0 9) := hth8
      have HX8 : Hid (X7.setCells (w.heap.size + 1 + 1) 0 (#[.int .u64 (z.m.qb : Int), .int .u64 (z.m.qn : Int), .int .i64 z.m.at_, .int .i64 z.m.fr, .int .i64 z.m.tq, .int .u64 (z.n : Int), .slice q7 z.h.length c7, .slice q8 z.r.length c8, .bool z.d] : Array Value).toList = X8) := hX8
      have HL8 : Hid ((loadVar 68 ⟨w.heap.size + 1 + 1, 0, none⟩).run Try.prog X8 = .ok (.agg #[.int .u64 (z.m.qb : Int), .int .u64 (z.m.qn : Int), .int .i64 z.m.at_, .int .i64 z.m.fr, .int .i64 z.m.tq, .int .u64 (z.n : Int), .slice q7 z.h.length c7, .slice q8 z.r.length c8, .bool z.d]) X8) := hld8
      have HTK := hid htk
      have HO7 : Hid ((#[.int .u64 (z.m.qb : Int), .int .u64 (z.m.qn : Int), .int .i64 z.m.at_, .int .i64 z.m.fr, .int .i64 z.m.tq, .int .u64 (z.n : Int), .slice q7 z.h.length c7, .slice q8 z.r.length c8, .bool z.d] : Array Value).all (·.oneCell') = true) := by show _ = _; simp [Value.oneCell']
      refine hK.out _ _ hS7 (fun hHeld => ?_)
      clear hK K' hS7 hth7 hX7 hr7 hth8 hX8 hld8 htk HC6
      refine wpAnyH_ready (rs := [11]) (by kernel_rfl) (by simp) ?_
      refine AllReadyH.cons rfl (fun K' hK => ?_) AllReadyH.nil
      rw [if_pos (by rfl)]
      refine wp_store_mid 68 (.tmp 7) (.tmp 32) rfl w2.heap.size 0 #[.int .u64 (z.m.qb : Int), .int .u64 (z.m.qn : Int), .int .i64 z.m.at_, .int .i64 z.m.fr, .int .i64 z.m.tq, .int .u64 (z.n : Int), .slice q7 z.h.length c7, .slice q8 z.r.length c8, .bool z.d] rfl rfl HT7.out sz_In HO7.out ?_
      rw [HX7.out]
      refine hK.out _ _ hSX7 (fun hHeld => ?_)
      clear hK K'
      refine wpAnyH_done (by kernel_rfl) ?_ _
      clear hHeld hSX7
      go_wp2_with (first | (refine wpList_load_mid rfl 68 _ rfl w2.heap.size 0 rfl _ _ HR7.out Try.underlying68 rfl sz_In ?_) | (refine wpList_store_mid rfl 68 _ _ rfl (w.heap.size + 1 + 1) 0 #[.int .u64 (z.m.qb : Int), .int .u64 (z.m.qn : Int), .int .i64 z.m.at_, .int .i64 z.m.fr, .int .i64 z.m.tq, .int .u64 (z.n : Int), .slice q7 z.h.length c7, .slice q8 z.r.length c8, .bool z.d] rfl rfl HT8.out sz_In HO7.out ?_; rw [HX8.out]))
      refine bodyPost_ret (v := .tuple #[.agg #[.int .u64 (z.m.qb : Int), .int .u64 (z.m.qn : Int), .int .i64 z.m.at_, .int .i64 z.m.fr, .int .i64 z.m.tq, .int .u64 (z.n : Int), .slice q7 z.h.length c7, .slice q8 z.r.length c8, .bool z.d], .int .i64 0]) (by simp only [results, Try.results18]; simp [asAddr, Act.put, HL8.out]) rfl ?_
      rw [HTP.out, HEE.out]
      exact HTK.out
    · refine AllReadyH.cons rfl (fun K' hK => ?_) AllReadyH.nil
      rw [if_pos (by rfl)]
      go_simp
      go_at_call 27
      refine C18.out.mono ?_
      rintro e w5 ⟨u5, rfl, ho5, hb5⟩
      obtain ⟨pb, cb, rfl⟩ := ho5.slice
      obtain ⟨hS5, hr5, hC5⟩ := HNX.out w5 pb cb ho5 hb5
      have HR5 : Hid (w5.rangeAt w2.heap.size 0 [.int .u64 (x.m.qb : Int), .int .u64 (x.m.qn : Int), .int .i64 x.m.at_, .int .i64 x.m.fr, .int .i64 x.m.tq, .int .u64 (x.n : Int), .slice p1 x.h.length r1, .slice p2 x.r.length r2, .bool x.d]) := hr5
      have HC5 := hid hC5
      refine hK.out _ _ hS5 (fun hHeld => ?_)
      clear hK K' ho5 hb5 hr5 hC5 hS5
      refine wpAnyH_ready (rs := [0, 8]) (by kernel_rfl) (by simp) ?_
      refine AllReadyH.cons rfl (fun K' hK => ?_) ?_
      · rw [if_pos (by rfl)]
        refine wp_load_mid 68 (.tmp 7) rfl w2.heap.size 0 rfl _ _ HR5.out Try.underlying68 rfl sz_In ?_
        simp only [Act.put, List.getElem_toArray, List.getElem_cons_zero, List.getElem_cons_succ, List.setIfInBounds_toArray, List.set_cons_zero, List.set_cons_succ]
        refine hK.out _ _ hHeld (fun hHeld => ?_)
        clear hK K'
        refine wpAnyH_ready (rs := [8]) (by kernel_rfl) (by simp) ?_
        refine AllReadyH.cons rfl (fun K' hK => ?_) AllReadyH.nil
        rw [if_pos (by rfl)]
        go_simp
        refine hK.out _ _ hHeld (fun hHeld => ?_)
        clear hK K'
        refine wpAnyH_ready (rs := [9]) (by kernel_rfl) (by simp) ?_
        refine AllReadyH.cons rfl (fun K' hK => ?_) AllReadyH.nil
        rw [if_pos (by rfl)]
        go_simp
        go_at_call 40
        refine HC5.out.mono ?_
        rintro e w6 ⟨p3, r3, rfl, hS6, hC6⟩
        have HC6 := hid hC6
        refine hK.out _ _ hS6 (fun hHeld => ?_)
        clear hK K' hS6 hC6 HC5
        refine wpAnyH_ready (rs := [10]) (by kernel_rfl) (by simp) ?_
        refine AllReadyH.cons rfl (fun K' hK => ?_) AllReadyH.nil
        rw [if_pos (by rfl)]
        go_simp
        go_at_call 39
        refine HC6.out.mono ?_
        rintro e w7 ⟨q7, c7, q8, c8, rfl, hS7, hth7, X7, hX7, hSX7, hr7, hth8, X8, hX8, hld8, htk⟩
        have HT7 : Hid (w7.there w2.heap.size 0 9) := hth7
        have HX7 : Hid (w7.setCells w2.heap.size 0 (#[.int .u64 (z.m.qb : Int), .int .u64 (z.m.qn : Int), .int .i64 z.m.at_, .int .i64 z.m.fr, .int .i64 z.m.tq, .int .u64 (z.n : Int), .slice q7 z.h.length c7, .slice q8 z.r.length c8, .bool z.d] : Array Value).toList = X7) := hX7
        have HR7 : Hid (X7.rangeAt w2.heap.size 0 [.int .u64 (z.m.qb : Int), .int .u64 (z.m.qn : Int), .int .i64 z.m.at_, .int .i64 z.m.fr, .int .i64 z.m.tq, .int .u64 (z.n : Int), .slice q7 z.h.length c7, .slice q8 z.r.length c8, .bool z.d]) := hr7
        have HT8 : Hid (X7.there (w.heap.size + 1 + 1) 0 9) := hth8
        have HX8 : Hid (X7.setCells (w.heap.size + 1 + 1) 0 (#[.int .u64 (z.m.qb : Int), .int .u64 (z.m.qn : Int), .int .i64 z.m.at_, .int .i64 z.m.fr, .int .i64 z.m.tq, .int .u64 (z.n : Int), .slice q7 z.h.length c7, .slice q8 z.r.length c8, .bool z.d] : Array Value).toList = X8) := hX8
        have HL8 : Hid ((loadVar 68 ⟨w.heap.size + 1 + 1, 0, none⟩).run Try.prog X8 = .ok (.agg #[.int .u64 (z.m.qb : Int), .int .u64 (z.m.qn : Int), .int .i64 z.m.at_, .int .i64 z.m.fr, .int .i64 z.m.tq, .int .u64 (z.n : Int), .slice q7 z.h.length c7, .slice q8 z.r.length c8, .bool z.d]) X8) := hld8
        have HTK := hid htk
        have HO7 : Hid ((#[.int .u64 (z.m.qb : Int), .int .u64 (z.m.qn : Int), .int .i64 z.m.at_, .int .i64 z.m.fr, .int .i64 z.m.tq, .int .u64 (z.n : Int), .slice q7 z.h.length c7, .slice q8 z.r.length c8, .bool z.d] : Array Value).all (·.oneCell') = true) := by show _ = _; simp [Value.oneCell']
        refine hK.out _ _ hS7 (fun hHeld => ?_)
        clear hK K' hS7 hth7 hX7 hr7 hth8 hX8 hld8 htk HC6
        refine wpAnyH_ready (rs := [11]) (by kernel_rfl) (by simp) ?_
        refine AllReadyH.cons rfl (fun K' hK => ?_) AllReadyH.nil
        rw [if_pos (by rfl)]
        refine wp_store_mid 68 (.tmp 7) (.tmp 32) rfl w2.heap.size 0 #[.int .u64 (z.m.qb : Int), .int .u64 (z.m.qn : Int), .int .i64 z.m.at_, .int .i64 z.m.fr, .int .i64 z.m.tq, .int .u64 (z.n : Int), .slice q7 z.h.length c7, .slice q8 z.r.length c8, .bool z.d] rfl rfl HT7.out sz_In HO7.out ?_
        rw [HX7.out]
        refine hK.out _ _ hSX7 (fun hHeld => ?_)
        clear hK K'
        refine wpAnyH_done (by kernel_rfl) ?_ _
        clear hHeld hSX7
        go_wp2_with (first | (refine wpList_load_mid rfl 68 _ rfl w2.heap.size 0 rfl _ _ HR7.out Try.underlying68 rfl sz_In ?_) | (refine wpList_store_mid rfl 68 _ _ rfl (w.heap.size + 1 + 1) 0 #[.int .u64 (z.m.qb : Int), .int .u64 (z.m.qn : Int), .int .i64 z.m.at_, .int .i64 z.m.fr, .int .i64 z.m.tq, .int .u64 (z.n : Int), .slice q7 z.h.length c7, .slice q8 z.r.length c8, .bool z.d] rfl rfl HT8.out sz_In HO7.out ?_; rw [HX8.out]))
        refine bodyPost_ret (v := .tuple #[.agg #[.int .u64 (z.m.qb : Int), .int .u64 (z.m.qn : Int), .int .i64 z.m.at_, .int .i64 z.m.fr, .int .i64 z.m.tq, .int .u64 (z.n : Int), .slice q7 z.h.length c7, .slice q8 z.r.length c8, .bool z.d], .int .i64 0]) (by simp only [results, Try.results18]; simp [asAddr, Act.put, HL8.out]) rfl ?_
        rw [HTP.out, HEE.out]
        exact HTK.out
      · refine AllReadyH.cons rfl (fun K' hK => ?_) AllReadyH.nil
        rw [if_pos (by rfl)]
        go_simp
        refine hK.out _ _ hHeld (fun hHeld => ?_)
        clear hK K'
        refine wpAnyH_ready (rs := [0]) (by kernel_rfl) (by simp) ?_
        refine AllReadyH.cons rfl (fun K' hK => ?_) AllReadyH.nil
        rw [if_pos (by rfl)]
        refine wp_load_mid 68 (.tmp 7) rfl w2.heap.size 0 rfl _ _ HR5.out Try.underlying68 rfl sz_In ?_
        simp only [Act.put, List.getElem_toArray, List.getElem_cons_zero, List.getElem_cons_succ, List.setIfInBounds_toArray, List.set_cons_zero, List.set_cons_succ]
        refine hK.out _ _ hHeld (fun hHeld => ?_)
        clear hK K'
        refine wpAnyH_ready (rs := [9]) (by kernel_rfl) (by simp) ?_
        refine AllReadyH.cons rfl (fun K' hK => ?_) AllReadyH.nil
        rw [if_pos (by rfl)]
        go_simp
        go_at_call 40
        refine HC5.out.mono ?_
        rintro e w6 ⟨p3, r3, rfl, hS6, hC6⟩
        have HC6 := hid hC6
        refine hK.out _ _ hS6 (fun hHeld => ?_)
        clear hK K' hS6 hC6 HC5
        refine wpAnyH_ready (rs := [10]) (by kernel_rfl) (by simp) ?_
        refine AllReadyH.cons rfl (fun K' hK => ?_) AllReadyH.nil
        rw [if_pos (by rfl)]
        go_simp
        go_at_call 39
        refine HC6.out.mono ?_
        rintro e w7 ⟨q7, c7, q8, c8, rfl, hS7, hth7, X7, hX7, hSX7, hr7, hth8, X8, hX8, hld8, htk⟩
        have HT7 : Hid (w7.there w2.heap.size 0 9) := hth7
        have HX7 : Hid (w7.setCells w2.heap.size 0 (#[.int .u64 (z.m.qb : Int), .int .u64 (z.m.qn : Int), .int .i64 z.m.at_, .int .i64 z.m.fr, .int .i64 z.m.tq, .int .u64 (z.n : Int), .slice q7 z.h.length c7, .slice q8 z.r.length c8, .bool z.d] : Array Value).toList = X7) := hX7
        have HR7 : Hid (X7.rangeAt w2.heap.size 0 [.int .u64 (z.m.qb : Int), .int .u64 (z.m.qn : Int), .int .i64 z.m.at_, .int .i64 z.m.fr, .int .i64 z.m.tq, .int .u64 (z.n : Int), .slice q7 z.h.length c7, .slice q8 z.r.length c8, .bool z.d]) := hr7
        have HT8 : Hid (X7.there (w.heap.size + 1 + 1) 0 9) := hth8
        have HX8 : Hid (X7.setCells (w.heap.size + 1 + 1) 0 (#[.int .u64 (z.m.qb : Int), .int .u64 (z.m.qn : Int), .int .i64 z.m.at_, .int .i64 z.m.fr, .int .i64 z.m.tq, .int .u64 (z.n : Int), .slice q7 z.h.length c7, .slice q8 z.r.length c8, .bool z.d] : Array Value).toList = X8) := hX8
        have HL8 : Hid ((loadVar 68 ⟨w.heap.size + 1 + 1, 0, none⟩).run Try.prog X8 = .ok (.agg #[.int .u64 (z.m.qb : Int), .int .u64 (z.m.qn : Int), .int .i64 z.m.at_, .int .i64 z.m.fr, .int .i64 z.m.tq, .int .u64 (z.n : Int), .slice q7 z.h.length c7, .slice q8 z.r.length c8, .bool z.d]) X8) := hld8
        have HTK := hid htk
        have HO7 : Hid ((#[.int .u64 (z.m.qb : Int), .int .u64 (z.m.qn : Int), .int .i64 z.m.at_, .int .i64 z.m.fr, .int .i64 z.m.tq, .int .u64 (z.n : Int), .slice q7 z.h.length c7, .slice q8 z.r.length c8, .bool z.d] : Array Value).all (·.oneCell') = true) := by show _ = _; simp [Value.oneCell']
        refine hK.out _ _ hS7 (fun hHeld => ?_)
        clear hK K' hS7 hth7 hX7 hr7 hth8 hX8 hld8 htk HC6
        refine wpAnyH_ready (rs := [11]) (by kernel_rfl) (by simp) ?_
        refine AllReadyH.cons rfl (fun K' hK => ?_) AllReadyH.nil
        rw [if_pos (by rfl)]
        refine wp_store_mid 68 (.tmp 7) (.tmp 32) rfl w2.heap.size 0 #[.int .u64 (z.m.qb : Int), .int .u64 (z.m.qn : Int), .int .i64 z.m.at_, .int .i64 z.m.fr, .int .i64 z.m.tq, .int .u64 (z.n : Int), .slice q7 z.h.length c7, .slice q8 z.r.length c8, .bool z.d] rfl rfl HT7.out sz_In HO7.out ?_
        rw [HX7.out]
        refine hK.out _ _ hSX7 (fun hHeld => ?_)
        clear hK K'
        refine wpAnyH_done (by kernel_rfl) ?_ _
        clear hHeld hSX7
        go_wp2_with (first | (refine wpList_load_mid rfl 68 _ rfl w2.heap.size 0 rfl _ _ HR7.out Try.underlying68 rfl sz_In ?_) | (refine wpList_store_mid rfl 68 _ _ rfl (w.heap.size + 1 + 1) 0 #[.int .u64 (z.m.qb : Int), .int .u64 (z.m.qn : Int), .int .i64 z.m.at_, .int .i64 z.m.fr, .int .i64 z.m.tq, .int .u64 (z.n : Int), .slice q7 z.h.length c7, .slice q8 z.r.length c8, .bool z.d] rfl rfl HT8.out sz_In HO7.out ?_; rw [HX8.out]))
        refine bodyPost_ret (v := .tuple #[.agg #[.int .u64 (z.m.qb : Int), .int .u64 (z.m.qn : Int), .int .i64 z.m.at_, .int .i64 z.m.fr, .int .i64 z.m.tq, .int .u64 (z.n : Int), .slice q7 z.h.length c7, .slice q8 z.r.length c8, .bool z.d], .int .i64 0]) (by simp only [results, Try.results18]; simp [asAddr, Act.put, HL8.out]) rfl ?_
        rw [HTP.out, HEE.out]
        exact HTK.out
  · have zE : (E == 0) = false := beq_eq_false_iff_ne.2 hE0
    have HTP : Hid (takeG x y = x) := by show _ = _; unfold takeG; rw [if_neg (by rw [hE]; exact hE0)]
    have hB3 : Below W0.heap.size W0 w3 := HBS.out.trans (hb3.mono HBS.out.size)
    obtain ⟨v1, v2, v3, v4, v5, v6, v7, v8⟩ := HV.out w3 hB3
    obtain ⟨hth8, X8, hX8, hld8, hsX8, hkX8⟩ := put_row w3 (w.heap.size + 1 + 1) _ 68 v3 [.int .u64 (x.m.qb : Int), .int .u64 (x.m.qn : Int), .int .i64 x.m.at_, .int .i64 x.m.fr, .int .i64 x.m.tq, .int .u64 (x.n : Int), .slice p1 x.h.length r1, .slice p2 x.r.length r2, .bool x.d] rfl Try.underlying68 rfl sz_In
    obtain ⟨z1, z2, z3⟩ := HZ2.out
    have hs0 := HS0.out
    have HTK : Hid (TakR w E x (.returned (.tuple #[.agg #[.int .u64 (x.m.qb : Int), .int .u64 (x.m.qn : Int), .int .i64 x.m.at_, .int .i64 x.m.fr, .int .i64 x.m.tq, .int .u64 (x.n : Int), .slice p1 x.h.length r1, .slice p2 x.r.length r2, .bool x.d], .int .i64 E])) X8) := by
      refine ⟨[.int .u64 (x.m.qb : Int), .int .u64 (x.m.qn : Int), .int .i64 x.m.at_, .int .i64 x.m.fr, .int .i64 x.m.tq, .int .u64 (x.n : Int), .slice p1 x.h.length r1, .slice p2 x.r.length r2, .bool x.d], rfl, mIn _ _ _ _ _ _ (fun b hb => ⟨by have := hb.1; omega, by have := hb.2; omega⟩) (hkX8.less fun b hb => by have := hb.1; show b ≠ _; omega) (HLH.out w3 (HIS.out.below hb3)), ⟨hkX8.os.trans v4.os, hkX8.tape.trans v4.tape, hkX8.output.trans v4.output, by have := v4.size; omega, fun b hb => (hkX8.block b (by show b ≠ _; omega)).trans (v4.block b hb)⟩⟩
    have HR3 : Hid (w3.rangeAt w2.heap.size 0 [.int .u64 (x.m.qb : Int), .int .u64 (x.m.qn : Int), .int .i64 x.m.at_, .int .i64 x.m.fr, .int .i64 x.m.tq, .int .u64 (x.n : Int), .slice p1 x.h.length r1, .slice p2 x.r.length r2, .bool x.d]) := fun j u hu => by rw [hb3.cell (p := ⟨w2.heap.size, _, none⟩) z1]; exact HRW.out j u hu
    have HT8 : Hid (w3.there (w.heap.size + 1 + 1) 0 9) := hth8
    have HX8 : Hid (w3.setCells (w.heap.size + 1 + 1) 0 (#[.int .u64 (x.m.qb : Int), .int .u64 (x.m.qn : Int), .int .i64 x.m.at_, .int .i64 x.m.fr, .int .i64 x.m.tq, .int .u64 (x.n : Int), .slice p1 x.h.length r1, .slice p2 x.r.length r2, .bool x.d] : Array Value).toList = X8) := hX8
    have HL8 : Hid ((loadVar 68 ⟨w.heap.size + 1 + 1, 0, none⟩).run Try.prog X8 = .ok (.agg #[.int .u64 (x.m.qb : Int), .int .u64 (x.m.qn : Int), .int .i64 x.m.at_, .int .i64 x.m.fr, .int .i64 x.m.tq, .int .u64 (x.n : Int), .slice p1 x.h.length r1, .slice p2 x.r.length r2, .bool x.d]) X8) := hld8
    clear hE hE0 hb3 hB3 v1 v2 v3 v4 v5 v6 v7 v8 hth8 hX8 hld8 hsX8 hkX8 z1 z2 z3 hs0
    go_wp2_with (first | (refine wpList_load_mid rfl 68 _ rfl w2.heap.size 0 rfl _ _ HR3.out Try.underlying68 rfl sz_In ?_) | (refine wpList_store_mid rfl 68 _ _ rfl (w.heap.size + 1 + 1) 0 #[.int .u64 (x.m.qb : Int), .int .u64 (x.m.qn : Int), .int .i64 x.m.at_, .int .i64 x.m.fr, .int .i64 x.m.tq, .int .u64 (x.n : Int), .slice p1 x.h.length r1, .slice p2 x.r.length r2, .bool x.d] rfl rfl HT8.out sz_In HON.out ?_; rw [HX8.out]))
    refine bodyPost_ret (v := .tuple #[.agg #[.int .u64 (x.m.qb : Int), .int .u64 (x.m.qn : Int), .int .i64 x.m.at_, .int .i64 x.m.fr, .int .i64 x.m.tq, .int .u64 (x.n : Int), .slice p1 x.h.length r1, .slice p2 x.r.length r2, .bool x.d], .int .i64 E]) (by simp only [results, Try.results18]; simp [asAddr, Act.put, HL8.out]) rfl ?_
    rw [HTP.out, HEE.out]
    exact HTK.out
theorem inE_two (x : In_) (h : inE x ≠ 0) : inE x = 6 := by
  unfold inE at h ⊢
  repeat' split
  all_goals first | rfl | (exfalso; apply h; simp_all; done) | skip
/-- One that is nothing. -/
def in0 : In_ := ⟨⟨0, 0, 0, 0, 0⟩, 0, [], [], false⟩
theorem rIn0 (K : Nat → Prop) (w : World) : rIn K w [.int .u64 0, .int .u64 0, .int .i64 0, .int .i64 0, .int .i64 0, .int .u64 0, .slice none 0 0, .slice none 0 0, .bool false] in0 := ⟨_, _, rfl, ⟨⟨⟨by show (0:Nat) < _; omega, by show (0:Nat) < _; omega⟩, ⟨by show _ ≤ (0:Int); omega, by show (0:Int) ≤ _; omega⟩, ⟨by show _ ≤ (0:Int); omega, by show (0:Int) ≤ _; omega⟩, ⟨by show _ ≤ (0:Int); omega, by show (0:Int) ≤ _; omega⟩⟩, by show (0:Nat) < _; omega⟩, ⟨none, 0, rfl, ⟨by simp [in0], by simp [in0]⟩, fun h => by simp [in0] at h⟩, ⟨none, 0, rfl, ⟨by simp [in0], by simp [in0]⟩, fun h => by simp [in0] at h⟩⟩
set_option maxRecDepth 100000 in
set_option maxHeartbeats 4000000 in
theorem take_bad (cs cl : List Value) (x : In_) (K : Nat → Prop) (w : World) (h : rIn K w cs x) (hin : inE x = 6) (hK : ∀ b, K b → b < w.heap.size) :
    Calls Try.prog 18 #[.agg cs.toArray, .agg cl.toArray] w fun e w' => TakR w 6 in0 e w' := by
  obtain ⟨q, c, q2, c2, rfl, hok, hn64, hl, hcap, hby, hl2, hcap2, hby2⟩ := in_cells2 h
  obtain ⟨W0, hW0, hb0, hs0, g0, g1, g2⟩ := three_boxes w #[.int .u64 (x.m.qb : Int), .int .u64 (x.m.qn : Int), .int .i64 x.m.at_, .int .i64 x.m.fr, .int .i64 x.m.tq, .int .u64 (x.n : Int), .slice q x.h.length c, .slice q2 x.r.length c2, .bool x.d] cl.toArray #[.int .u64 0, .int .u64 0, .int .i64 0, .int .i64 0, .int .i64 0, .int .u64 0, .slice none 0 0, .slice none 0 0, .bool false] 68 62 68
  have C1 : Hid (Calls Try.prog 21 #[.agg #[.int .u64 (x.m.qb : Int), .int .u64 (x.m.qn : Int), .int .i64 x.m.at_, .int .i64 x.m.fr, .int .i64 x.m.tq, .int .u64 (x.n : Int), .slice q x.h.length c, .slice q2 x.r.length c2, .bool x.d]] W0 fun e w' => e = .returned (.int .i64 6) ∧ Below W0.heap.size W0 w') := by have := checkIn_any _ x K W0 (mIn _ _ _ _ _ _ (fun _ h => h) (kept_of hK hb0) h) (fun b hb' => Nat.lt_of_lt_of_le (hK b hb') hb0.size); rw [hin] at this; exact this
  have HR0 : Hid (W0.rangeAt w.heap.size 0 [.int .u64 (x.m.qb : Int), .int .u64 (x.m.qn : Int), .int .i64 x.m.at_, .int .i64 x.m.fr, .int .i64 x.m.tq, .int .u64 (x.n : Int), .slice q x.h.length c, .slice q2 x.r.length c2, .bool x.d]) := fun j u hu => by rw [Nat.zero_add]; exact cell_of_row g0 (by simpa using hu)
  have HG : Hid (W0.heap[w.heap.size + 1 + 1]? = some (.cells #[.int .u64 0, .int .u64 0, .int .i64 0, .int .i64 0, .int .i64 0, .int .u64 0, .slice none 0 0, .slice none 0 0, .bool false] 68 (0, 0)) ∧ Below w.heap.size w W0 ∧ W0.heap.size = w.heap.size + 3) := ⟨g2, hb0, hs0⟩
  clear h hin hK hl hcap hby hl2 hcap2 hby2 hok hn64 hb0 hs0 g0 g1 g2
  go_enter Try.func18, Try.ntmps18
  go_wp2_with (refine wpList_load_mid rfl 68 _ rfl w.heap.size 0 rfl _ _ HR0.out Try.underlying68 rfl sz_In ?_)
  refine C1.out.mono ?_
  rintro e w1 ⟨rfl, hb1⟩
  obtain ⟨g2, hb0, hs0⟩ := HG.out
  obtain ⟨hth, X, hX, hld, hsX, hkX⟩ := put_row w1 (w.heap.size + 1 + 1) _ 68 ((hb1.block _ (by omega)).trans g2) [.int .u64 0, .int .u64 0, .int .i64 0, .int .i64 0, .int .i64 0, .int .u64 0, .slice none 0 0, .slice none 0 0, .bool false] rfl Try.underlying68 rfl sz_In
  have HTH : Hid (w1.there (w.heap.size + 1 + 1) 0 9) := hth
  have HWX : Hid (w1.setCells (w.heap.size + 1 + 1) 0 (#[.int .u64 0, .int .u64 0, .int .i64 0, .int .i64 0, .int .i64 0, .int .u64 0, .slice none 0 0, .slice none 0 0, .bool false] : Array Value).toList = X) := hX
  have HLD : Hid ((loadVar 68 ⟨w.heap.size + 1 + 1, 0, none⟩).run Try.prog X = .ok (.agg #[.int .u64 0, .int .u64 0, .int .i64 0, .int .i64 0, .int .i64 0, .int .u64 0, .slice none 0 0, .slice none 0 0, .bool false]) X) := hld
  have HON : Hid ((#[.int .u64 0, .int .u64 0, .int .i64 0, .int .i64 0, .int .i64 0, .int .u64 0, .slice none 0 0, .slice none 0 0, .bool false] : Array Value).all (·.oneCell') = true) := by show _ = _; simp [Value.oneCell']
  have hbw := hb0.trans (hb1.mono hb0.size)
  have HFI : Hid (TakR w 6 in0 (.returned (.tuple #[.agg #[.int .u64 0, .int .u64 0, .int .i64 0, .int .i64 0, .int .i64 0, .int .u64 0, .slice none 0 0, .slice none 0 0, .bool false], .int .i64 6])) X) := ⟨[.int .u64 0, .int .u64 0, .int .i64 0, .int .i64 0, .int .i64 0, .int .u64 0, .slice none 0 0, .slice none 0 0, .bool false], rfl, rIn0 _ _, ⟨hkX.os.trans hbw.os, hkX.tape.trans hbw.tape, hkX.output.trans hbw.output, by have := hbw.size; omega, fun b hb => (hkX.block b (by show b ≠ _; omega)).trans (hbw.block b hb)⟩⟩
  clear hth hX hld hsX hkX hbw g2 hb0 hs0 hb1 C1 HR0 hW0 HG
  go_wp2_with (refine wpList_store_mid rfl 68 _ _ rfl (w.heap.size + 1 + 1) 0 #[.int .u64 0, .int .u64 0, .int .i64 0, .int .i64 0, .int .i64 0, .int .u64 0, .slice none 0 0, .slice none 0 0, .bool false] rfl rfl HTH.out sz_In HON.out ?_; rw [HWX.out])
  refine bodyPost_ret (v := .tuple #[.agg #[.int .u64 0, .int .u64 0, .int .i64 0, .int .i64 0, .int .i64 0, .int .u64 0, .slice none 0 0, .slice none 0 0, .bool false], .int .i64 6]) (by simp only [results, Try.results18]; simp [asAddr, Act.put, HLD.out]) rfl ?_
  exact HFI.out
/-- What Take answers of any. -/
def tkE (x : In_) (y : Ms) : Int := if inE x = 0 then refG x y else 6
def tkI (x : In_) (y : Ms) : In_ := if inE x = 0 then takeG x y else in0
theorem take_all (cs cl : List Value) (x : In_) (y : Ms) (K : Nat → Prop) (w : World) (h : rIn K w cs x) (h' : rMs K w cl y) (hk256 : y.k < 256) (hK : ∀ b, K b → b < w.heap.size) :
    Calls Try.prog 18 #[.agg cs.toArray, .agg cl.toArray] w fun e w' => TakR w (tkE x y) (tkI x y) e w' := by
  by_cases h0 : inE x = 0
  · have e1 : tkE x y = refG x y := by unfold tkE; rw [if_pos h0]
    have e2 : tkI x y = takeG x y := by unfold tkI; rw [if_pos h0]
    rw [e1, e2]
    exact take_good cs cl x y K w h h0 h' hk256 hK
  · have e1 : tkE x y = 6 := by unfold tkE; rw [if_neg h0]
    have e2 : tkI x y = in0 := by unfold tkI; rw [if_neg h0]
    rw [e1, e2]
    exact take_bad cs cl x K w h (inE_two x h0) hK
end Go.Proofs.Ytcmiphgeakdonaa
