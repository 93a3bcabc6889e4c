/- New memory: fragments, bound queries. -/
import Derived.Test.YtajomnfeicfdlaaGreatDoorGdGe
namespace Go.Proofs.YtajomnfeicfdlaaGreatDoor
open Go.Shelf Go.RowKit Go.Lib
set_option linter.unusedVariables false
set_option linter.unusedSimpArgs false
attribute [local go_sem ↓] Go.wp_at_zero Go.wp_at_succ
theorem sz_frag : (Tryz.prog.info? 60).map (·.size) = some 17 := by kernel_rfl
set_option maxRecDepth 100000 in
set_option maxHeartbeats 4000000 in
theorem f_frag : FreshC rFrg 46 := by
 intro K w cs x h hK
 obtain ⟨d1, d2, v3, rfl, q1, q2, g1, g2, q3, n3⟩ := h
 have HS1 : Hid (rSr K w d1 x.l) := g1
 have HS2 : Hid (rSr K w d2 x.r) := g2
 obtain ⟨v1, rfl, a1, a2, a3, a4, n1⟩ := g1
 obtain ⟨v2, rfl, b1, b2, b3, b4, n2⟩ := g2
 simp only [List.cons_append, List.nil_append]
 have HL1 : Hid (ListIs rInt 1 8 K w v1 x.l.f) := n1
 have HL2 : Hid (ListIs rInt 1 8 K w v2 x.r.f) := n2
 have HL3 : Hid (ListIs rInt 1 8 K w v3 x.to) := n3
 obtain ⟨za1, ya1, rfl, nn1, mm1⟩ := id n1
 obtain ⟨za2, ya2, rfl, nn2, mm2⟩ := id n2
 obtain ⟨za3, ya3, rfl, nn3, mm3⟩ := id n3
 show Calls Tryz.prog 46 #[.agg #[.int .i64 x.id, .int .i64 x.nd, .int .u8 (x.l.k : Int), .string x.l.t, .int .u64 (x.l.v.b : Int), .int .u64 (x.l.v.l : Int), .int .i64 x.l.s, .slice za1 x.l.f.length ya1, .int .u8 (x.r.k : Int), .string x.r.t, .int .u64 (x.r.v.b : Int), .int .u64 (x.r.v.l : Int), .int .i64 x.r.s, .slice za2 x.r.f.length ya2, .bool x.raw, .int .i64 x.by_, .slice za3 x.to.length ya3]] w _
 have HK : Hid (∀ b, K b → b < w.heap.size) := hK
 have HQ : Hid ((I64 x.id ∧ I64 x.nd ∧ I64 x.by_) ∧ (x.l.k < 256 ∧ small x.l.t ∧ okV x.l.v ∧ I64 x.l.s) ∧ (x.r.k < 256 ∧ small x.r.t ∧ okV x.r.v ∧ I64 x.r.s)) := ⟨⟨q1, q2, q3⟩, ⟨a1, a2, a3, a4⟩, ⟨b1, b2, b3, b4⟩⟩
 obtain ⟨W0, hW0, t0, hs0⟩ := Two.start w 60 #[.int .i64 x.id, .int .i64 x.nd, .int .u8 (x.l.k : Int), .string x.l.t, .int .u64 (x.l.v.b : Int), .int .u64 (x.l.v.l : Int), .int .i64 x.l.s, .slice za1 x.l.f.length ya1, .int .u8 (x.r.k : Int), .string x.r.t, .int .u64 (x.r.v.b : Int), .int .u64 (x.r.v.l : Int), .int .i64 x.r.s, .slice za2 x.r.f.length ya2, .bool x.raw, .int .i64 x.by_, .slice za3 x.to.length ya3] #[.int .i64 0, .int .i64 0, .int .u8 0, .string ⟨#[]⟩, .int .u64 0, .int .u64 0, .int .i64 0, .slice none 0 0, .int .u8 0, .string ⟨#[]⟩, .int .u64 0, .int .u64 0, .int .i64 0, .slice none 0 0, .bool false, .int .i64 0, .slice none 0 0] rfl
 have HT0 : Hid (Two 60 [.int .i64 x.id, .int .i64 x.nd, .int .u8 (x.l.k : Int), .string x.l.t, .int .u64 (x.l.v.b : Int), .int .u64 (x.l.v.l : Int), .int .i64 x.l.s, .slice za1 x.l.f.length ya1, .int .u8 (x.r.k : Int), .string x.r.t, .int .u64 (x.r.v.b : Int), .int .u64 (x.r.v.l : Int), .int .i64 x.r.s, .slice za2 x.r.f.length ya2, .bool x.raw, .int .i64 x.by_, .slice za3 x.to.length ya3] w W0) := t0
 clear t0 hK nn1 mm1 n1 nn2 mm2 n2 nn3 mm3 n3 q1 q2 q3 a1 a2 a3 a4 b1 b2 b3 b4
 go_enter Tryz.func46, Tryz.ntmps46
 have C1 : Hid (Calls Tryz.prog 76 #[.agg #[.int .u8 (x.l.k : Int), .string x.l.t, .int .u64 (x.l.v.b : Int), .int .u64 (x.l.v.l : Int), .int .i64 x.l.s, .slice za1 x.l.f.length ya1]] W0 fun e w' => ∃ cs', e = .returned (asV cs') ∧ rSr (From W0.heap.size w') w' cs' x.l ∧ Below W0.heap.size W0 w') := f_source K W0 [.int .u8 (x.l.k : Int), .string x.l.t, .int .u64 (x.l.v.b : Int), .int .u64 (x.l.v.l : Int), .int .i64 x.l.s, .slice za1 x.l.f.length ya1] x.l (mSr _ _ _ _ _ _ (fun _ h => h) (kept_of HK.out HT0.out.2.2) HS1.out) (fun b hb => Nat.lt_of_lt_of_le (HK.out b hb) HT0.out.2.2.size)
 have HR1 : Hid (W0.rangeAt w.heap.size 2 [.int .u8 (x.l.k : Int), .string x.l.t, .int .u64 (x.l.v.b : Int), .int .u64 (x.l.v.l : Int), .int .i64 x.l.s, .slice za1 x.l.f.length ya1]) := Two.mids (pre := [.int .i64 x.id, .int .i64 x.nd]) (post := [.int .u8 (x.r.k : Int), .string x.r.t, .int .u64 (x.r.v.b : Int), .int .u64 (x.r.v.l : Int), .int .i64 x.r.s, .slice za2 x.r.f.length ya2, .bool x.raw, .int .i64 x.by_, .slice za3 x.to.length ya3]) HT0.out
 go_wp2_with (first | (refine wpList_load_mid rfl 58 _ rfl w.heap.size 2 rfl _ _ HR1.out Tryz.underlying58 rfl sz_source ?_))
 refine C1.out.mono ?_
 rintro e w1 ⟨cs1, rfl, hr1, hb1⟩
 obtain ⟨u1, rfl, g1, g2, g3, g4, hl1⟩ := hr1
 obtain ⟨p1, r1, rfl, _, _⟩ := id hl1
 have T1' : Two 60 [.int .i64 x.id, .int .i64 x.nd, .int .u8 (x.l.k : Int), .string x.l.t, .int .u64 (x.l.v.b : Int), .int .u64 (x.l.v.l : Int), .int .i64 x.l.s, .slice za1 x.l.f.length ya1, .int .u8 (x.r.k : Int), .string x.r.t, .int .u64 (x.r.v.b : Int), .int .u64 (x.r.v.l : Int), .int .i64 x.r.s, .slice za2 x.r.f.length ya2, .bool x.raw, .int .i64 x.by_, .slice za3 x.to.length ya3] w w1 := HT0.out.call hb1
 clear C1 HR1 g1 g2 g3 g4
 obtain ⟨V1, cm1, hV1, t1, ln1, cc1, o1, s1, k1⟩ := Two.mid [.int .u8 (x.l.k : Int), .string x.l.t, .int .u64 (x.l.v.b : Int), .int .u64 (x.l.v.l : Int), .int .i64 x.l.s, .slice p1 x.l.f.length r1] T1' 2 (by simp)
 rw [mid_eq ln1 cc1 o1 (by simp)] at t1
 have T1 : Hid (Two 60 [.int .i64 x.id, .int .i64 x.nd, .int .u8 (x.l.k : Int), .string x.l.t, .int .u64 (x.l.v.b : Int), .int .u64 (x.l.v.l : Int), .int .i64 x.l.s, .slice p1 x.l.f.length r1, .int .u8 (x.r.k : Int), .string x.r.t, .int .u64 (x.r.v.b : Int), .int .u64 (x.r.v.l : Int), .int .i64 x.r.s, .slice za2 x.r.f.length ya2, .bool x.raw, .int .i64 x.by_, .slice za3 x.to.length ya3] w V1) := t1
 have HV1 : Hid (w1.setCells w.heap.size 2 (#[.int .u8 (x.l.k : Int), .string x.l.t, .int .u64 (x.l.v.b : Int), .int .u64 (x.l.v.l : Int), .int .i64 x.l.s, .slice p1 x.l.f.length r1] : Array Value).toList = V1) := hV1
 have HH1 : Hid (w1.there w.heap.size 2 6) := T1'.there 2 6 (by simp)
 have HO1 : Hid ((#[.int .u8 (x.l.k : Int), .string x.l.t, .int .u64 (x.l.v.b : Int), .int .u64 (x.l.v.l : Int), .int .i64 x.l.s, .slice p1 x.l.f.length r1] : Array Value).all (·.oneCell') = true) := by show _ = _; simp [Value.oneCell']
 have L1 : Hid (ListIs rInt 1 8 (From (w.heap.size + 2) V1) V1 (.slice p1 x.l.f.length r1) x.l.f) := (hl1.less mInt HT0.out.lt).kept mInt k1
 clear hb1 hl1 T1' t1 ln1 cc1 o1 s1 k1 hV1
 unfold asV
 have C2 : Hid (Calls Tryz.prog 76 #[.agg #[.int .u8 (x.r.k : Int), .string x.r.t, .int .u64 (x.r.v.b : Int), .int .u64 (x.r.v.l : Int), .int .i64 x.r.s, .slice za2 x.r.f.length ya2]] V1 fun e w' => ∃ cs', e = .returned (asV cs') ∧ rSr (From V1.heap.size w') w' cs' x.r ∧ Below V1.heap.size V1 w') := f_source K V1 [.int .u8 (x.r.k : Int), .string x.r.t, .int .u64 (x.r.v.b : Int), .int .u64 (x.r.v.l : Int), .int .i64 x.r.s, .slice za2 x.r.f.length ya2] x.r (mSr _ _ _ _ _ _ (fun _ h => h) (kept_of HK.out T1.out.2.2) HS2.out) (fun b hb => Nat.lt_of_lt_of_le (HK.out b hb) T1.out.2.2.size)
 have HR2 : Hid (V1.rangeAt w.heap.size 8 [.int .u8 (x.r.k : Int), .string x.r.t, .int .u64 (x.r.v.b : Int), .int .u64 (x.r.v.l : Int), .int .i64 x.r.s, .slice za2 x.r.f.length ya2]) := Two.mids (pre := [.int .i64 x.id, .int .i64 x.nd, .int .u8 (x.l.k : Int), .string x.l.t, .int .u64 (x.l.v.b : Int), .int .u64 (x.l.v.l : Int), .int .i64 x.l.s, .slice p1 x.l.f.length r1]) (post := [.bool x.raw, .int .i64 x.by_, .slice za3 x.to.length ya3]) T1.out
 go_wp2_with (first | (refine wpList_store_mid rfl 58 _ _ rfl w.heap.size 2 #[.int .u8 (x.l.k : Int), .string x.l.t, .int .u64 (x.l.v.b : Int), .int .u64 (x.l.v.l : Int), .int .i64 x.l.s, .slice p1 x.l.f.length r1] rfl rfl HH1.out sz_source HO1.out ?_; rw [HV1.out]) | (refine wpList_load_mid rfl 58 _ rfl w.heap.size 8 rfl _ _ HR2.out Tryz.underlying58 rfl sz_source ?_))
 clear HV1 HH1 HO1
 refine C2.out.mono ?_
 rintro e w2 ⟨cs2, rfl, hr2, hb2⟩
 obtain ⟨u2, rfl, g1, g2, g3, g4, hl2⟩ := hr2
 obtain ⟨p2, r2, rfl, _, _⟩ := id hl2
 have T2' : Two 60 [.int .i64 x.id, .int .i64 x.nd, .int .u8 (x.l.k : Int), .string x.l.t, .int .u64 (x.l.v.b : Int), .int .u64 (x.l.v.l : Int), .int .i64 x.l.s, .slice p1 x.l.f.length r1, .int .u8 (x.r.k : Int), .string x.r.t, .int .u64 (x.r.v.b : Int), .int .u64 (x.r.v.l : Int), .int .i64 x.r.s, .slice za2 x.r.f.length ya2, .bool x.raw, .int .i64 x.by_, .slice za3 x.to.length ya3] w w2 := T1.out.call hb2
 clear C2 HR2 g1 g2 g3 g4
 obtain ⟨V2, cm2, hV2, t2, ln2, cc2, o2, s2, k2⟩ := Two.mid [.int .u8 (x.r.k : Int), .string x.r.t, .int .u64 (x.r.v.b : Int), .int .u64 (x.r.v.l : Int), .int .i64 x.r.s, .slice p2 x.r.f.length r2] T2' 8 (by simp)
 rw [mid_eq ln2 cc2 o2 (by simp)] at t2
 have T2 : Hid (Two 60 [.int .i64 x.id, .int .i64 x.nd, .int .u8 (x.l.k : Int), .string x.l.t, .int .u64 (x.l.v.b : Int), .int .u64 (x.l.v.l : Int), .int .i64 x.l.s, .slice p1 x.l.f.length r1, .int .u8 (x.r.k : Int), .string x.r.t, .int .u64 (x.r.v.b : Int), .int .u64 (x.r.v.l : Int), .int .i64 x.r.s, .slice p2 x.r.f.length r2, .bool x.raw, .int .i64 x.by_, .slice za3 x.to.length ya3] w V2) := t2
 have HV2 : Hid (w2.setCells w.heap.size 8 (#[.int .u8 (x.r.k : Int), .string x.r.t, .int .u64 (x.r.v.b : Int), .int .u64 (x.r.v.l : Int), .int .i64 x.r.s, .slice p2 x.r.f.length r2] : Array Value).toList = V2) := hV2
 have HH2 : Hid (w2.there w.heap.size 8 6) := T2'.there 8 6 (by simp)
 have HO2 : Hid ((#[.int .u8 (x.r.k : Int), .string x.r.t, .int .u64 (x.r.v.b : Int), .int .u64 (x.r.v.l : Int), .int .i64 x.r.s, .slice p2 x.r.f.length r2] : Array Value).all (·.oneCell') = true) := by show _ = _; simp [Value.oneCell']
 have L1_2 := hid ((L1.out.grow mInt hb2).kept mInt k2)
 have L2 : Hid (ListIs rInt 1 8 (From (w.heap.size + 2) V2) V2 (.slice p2 x.r.f.length r2) x.r.f) := (hl2.less mInt T1.out.lt).kept mInt k2
 clear hb2 hl2 T2' t2 ln2 cc2 o2 s2 k2 hV2
 unfold asV
 have C3 : Hid (Calls Tryz.prog 47 #[.slice za3 x.to.length ya3] V2 fun e w' => CpP rInt 1 8 x.to V2 e w') := plain_ints K V2 _ _ (ListIs.later mInt HL3.out HK.out T2.out.2.2) (fun b hb => Nat.lt_of_lt_of_le (HK.out b hb) T2.out.2.2.size)
 have c3 := T2.out.cell (k := 16) (v := .slice za3 x.to.length ya3) rfl
 go_wp2_with (first | (refine wpList_store_mid rfl 58 _ _ rfl w.heap.size 8 #[.int .u8 (x.r.k : Int), .string x.r.t, .int .u64 (x.r.v.b : Int), .int .u64 (x.r.v.l : Int), .int .i64 x.r.s, .slice p2 x.r.f.length r2] rfl rfl HH2.out sz_source HO2.out ?_; rw [HV2.out]))
 clear HV2 HH2 HO2
 refine C3.out.mono ?_
 rintro e w3 ⟨p3, r3, rfl, hl3, hb3⟩
 have T3' : Two 60 [.int .i64 x.id, .int .i64 x.nd, .int .u8 (x.l.k : Int), .string x.l.t, .int .u64 (x.l.v.b : Int), .int .u64 (x.l.v.l : Int), .int .i64 x.l.s, .slice p1 x.l.f.length r1, .int .u8 (x.r.k : Int), .string x.r.t, .int .u64 (x.r.v.b : Int), .int .u64 (x.r.v.l : Int), .int .i64 x.r.s, .slice p2 x.r.f.length r2, .bool x.raw, .int .i64 x.by_, .slice za3 x.to.length ya3] w w3 := T2.out.call hb3
 clear c3 C3
 obtain ⟨V3, hV3, f3, t3, s3, k3⟩ := T3'.put (k := 16) (by simp) (.slice p3 x.to.length r3)
 have d3 := T3'.cell (k := 16) (v := .slice za3 x.to.length ya3) rfl
 have T3 : Hid (Two 60 [.int .i64 x.id, .int .i64 x.nd, .int .u8 (x.l.k : Int), .string x.l.t, .int .u64 (x.l.v.b : Int), .int .u64 (x.l.v.l : Int), .int .i64 x.l.s, .slice p1 x.l.f.length r1, .int .u8 (x.r.k : Int), .string x.r.t, .int .u64 (x.r.v.b : Int), .int .u64 (x.r.v.l : Int), .int .i64 x.r.s, .slice p2 x.r.f.length r2, .bool x.raw, .int .i64 x.by_, .slice p3 x.to.length r3] w V3) := t3
 have L1_2_3 := hid ((L1_2.out.grow mInt hb3).kept mInt k3)
 have L2_3 := hid ((L2.out.grow mInt hb3).kept mInt k3)
 have L3 : Hid (ListIs rInt 1 8 (From (w.heap.size + 2) V3) V3 (.slice p3 x.to.length r3) x.to) := (hl3.less mInt T2.out.lt).kept mInt k3
 clear hb3 hl3 T3' t3 s3 k3
 obtain ⟨hra, hth, W5, hW5, hld, hb5, s5, k5⟩ := T3.out.ret Tryz.underlying60 rfl sz_frag
 have HRA : Hid (V3.rangeAt w.heap.size 0 [.int .i64 x.id, .int .i64 x.nd, .int .u8 (x.l.k : Int), .string x.l.t, .int .u64 (x.l.v.b : Int), .int .u64 (x.l.v.l : Int), .int .i64 x.l.s, .slice p1 x.l.f.length r1, .int .u8 (x.r.k : Int), .string x.r.t, .int .u64 (x.r.v.b : Int), .int .u64 (x.r.v.l : Int), .int .i64 x.r.s, .slice p2 x.r.f.length r2, .bool x.raw, .int .i64 x.by_, .slice p3 x.to.length r3]) := hra
 have HTH : Hid (V3.there (w.heap.size + 1) 0 17) := hth
 have HW5 : Hid (V3.setCells (w.heap.size + 1) 0 (#[.int .i64 x.id, .int .i64 x.nd, .int .u8 (x.l.k : Int), .string x.l.t, .int .u64 (x.l.v.b : Int), .int .u64 (x.l.v.l : Int), .int .i64 x.l.s, .slice p1 x.l.f.length r1, .int .u8 (x.r.k : Int), .string x.r.t, .int .u64 (x.r.v.b : Int), .int .u64 (x.r.v.l : Int), .int .i64 x.r.s, .slice p2 x.r.f.length r2, .bool x.raw, .int .i64 x.by_, .slice p3 x.to.length r3] : Array Value).toList = W5) := hW5
 have HON : Hid ((#[.int .i64 x.id, .int .i64 x.nd, .int .u8 (x.l.k : Int), .string x.l.t, .int .u64 (x.l.v.b : Int), .int .u64 (x.l.v.l : Int), .int .i64 x.l.s, .slice p1 x.l.f.length r1, .int .u8 (x.r.k : Int), .string x.r.t, .int .u64 (x.r.v.b : Int), .int .u64 (x.r.v.l : Int), .int .i64 x.r.s, .slice p2 x.r.f.length r2, .bool x.raw, .int .i64 x.by_, .slice p3 x.to.length r3] : Array Value).all (·.oneCell') = true) := by show _ = _; simp [Value.oneCell']
 have HLD : Hid ((loadVar 60 ⟨w.heap.size + 1, 0, none⟩).run Tryz.prog W5 = .ok (.agg #[.int .i64 x.id, .int .i64 x.nd, .int .u8 (x.l.k : Int), .string x.l.t, .int .u64 (x.l.v.b : Int), .int .u64 (x.l.v.l : Int), .int .i64 x.l.s, .slice p1 x.l.f.length r1, .int .u8 (x.r.k : Int), .string x.r.t, .int .u64 (x.r.v.b : Int), .int .u64 (x.r.v.l : Int), .int .i64 x.r.s, .slice p2 x.r.f.length r2, .bool x.raw, .int .i64 x.by_, .slice p3 x.to.length r3]) W5) := hld
 have HBF : Hid (Below w.heap.size w W5) := hb5
 have M0 := hid ((L1_2_3.out.kept mInt k5).less mInt (C := w.heap.size) (by omega))
 have M1 := hid ((L2_3.out.kept mInt k5).less mInt (C := w.heap.size) (by omega))
 have M2 := hid ((L3.out.kept mInt k5).less mInt (C := w.heap.size) (by omega))
 clear hra hth hW5 hld hb5 s5 k5
 go_wp2_with (first | (refine wpList_load_mid rfl 60 _ rfl w.heap.size 0 rfl _ _ HRA.out Tryz.underlying60 rfl sz_frag ?_) | (refine wpList_store_mid rfl 60 _ _ rfl (w.heap.size + 1) 0 #[.int .i64 x.id, .int .i64 x.nd, .int .u8 (x.l.k : Int), .string x.l.t, .int .u64 (x.l.v.b : Int), .int .u64 (x.l.v.l : Int), .int .i64 x.l.s, .slice p1 x.l.f.length r1, .int .u8 (x.r.k : Int), .string x.r.t, .int .u64 (x.r.v.b : Int), .int .u64 (x.r.v.l : Int), .int .i64 x.r.s, .slice p2 x.r.f.length r2, .bool x.raw, .int .i64 x.by_, .slice p3 x.to.length r3] rfl rfl HTH.out sz_frag HON.out ?_; rw [HW5.out]))
 refine bodyPost_ret (v := .agg #[.int .i64 x.id, .int .i64 x.nd, .int .u8 (x.l.k : Int), .string x.l.t, .int .u64 (x.l.v.b : Int), .int .u64 (x.l.v.l : Int), .int .i64 x.l.s, .slice p1 x.l.f.length r1, .int .u8 (x.r.k : Int), .string x.r.t, .int .u64 (x.r.v.b : Int), .int .u64 (x.r.v.l : Int), .int .i64 x.r.s, .slice p2 x.r.f.length r2, .bool x.raw, .int .i64 x.by_, .slice p3 x.to.length r3]) (by simp only [results, Tryz.results46]; simp [asAddr, Act.put, HLD.out]) rfl ?_
 have hq := HQ.out
 exact ⟨[.int .i64 x.id, .int .i64 x.nd, .int .u8 (x.l.k : Int), .string x.l.t, .int .u64 (x.l.v.b : Int), .int .u64 (x.l.v.l : Int), .int .i64 x.l.s, .slice p1 x.l.f.length r1, .int .u8 (x.r.k : Int), .string x.r.t, .int .u64 (x.r.v.b : Int), .int .u64 (x.r.v.l : Int), .int .i64 x.r.s, .slice p2 x.r.f.length r2, .bool x.raw, .int .i64 x.by_, .slice p3 x.to.length r3], rfl, ⟨[.int .u8 (x.l.k : Int), .string x.l.t, .int .u64 (x.l.v.b : Int), .int .u64 (x.l.v.l : Int), .int .i64 x.l.s, .slice p1 x.l.f.length r1], [.int .u8 (x.r.k : Int), .string x.r.t, .int .u64 (x.r.v.b : Int), .int .u64 (x.r.v.l : Int), .int .i64 x.r.s, .slice p2 x.r.f.length r2], _, rfl, hq.1.1, hq.1.2.1, ⟨_, rfl, hq.2.1.1, hq.2.1.2.1, hq.2.1.2.2.1, hq.2.1.2.2.2, M0.out⟩, ⟨_, rfl, hq.2.2.1, hq.2.2.2.1, hq.2.2.2.2.1, hq.2.2.2.2.2, M1.out⟩, hq.1.2.2, M2.out⟩, HBF.out⟩
end Go.Proofs.YtajomnfeicfdlaaGreatDoor
/- New memory: bound queries. -/
namespace Go.Proofs.YtajomnfeicfdlaaGreatDoor
open Go.Shelf Go.RowKit Go.Lib
set_option linter.unusedVariables false
set_option linter.unusedSimpArgs false
attribute [local go_sem ↓] Go.wp_at_zero Go.wp_at_succ
theorem sz_bound : (Tryz.prog.info? 54).map (·.size) = some 11 := by kernel_rfl
set_option maxRecDepth 100000 in
set_option maxHeartbeats 4000000 in
theorem f_bound : FreshC rBnd 43 := by
 intro K w cs x h hK
 obtain ⟨v1, v2, v3, v4, v5, rfl, q1, q2, q3, q4, q5, n1, n2, n3, n4, n5⟩ := h
 have HL1 : Hid (ListIs rStp 3 32 K w v1 x.wh) := n1
 have HL2 : Hid (ListIs rInt 1 8 K w v2 x.g) := n2
 have HL3 : Hid (ListIs rItm 2 32 K w v3 x.i) := n3
 have HL4 : Hid (ListIs rTxt 1 16 K w v4 x.nm) := n4
 have HL5 : Hid (ListIs rKnd 1 1 K w v5 x.kd) := n5
 obtain ⟨za1, ya1, rfl, nn1, mm1⟩ := id n1
 obtain ⟨za2, ya2, rfl, nn2, mm2⟩ := id n2
 obtain ⟨za3, ya3, rfl, nn3, mm3⟩ := id n3
 obtain ⟨za4, ya4, rfl, nn4, mm4⟩ := id n4
 obtain ⟨za5, ya5, rfl, nn5, mm5⟩ := id n5
 show Calls Tryz.prog 43 #[.agg #[.string x.t, .string x.j, .int .i64 x.w, .int .i64 x.l, .int .i64 x.r, .slice za1 x.wh.length ya1, .slice za2 x.g.length ya2, .slice za3 x.i.length ya3, .bool x.gr, .slice za4 x.nm.length ya4, .slice za5 x.kd.length ya5]] w _
 have HK : Hid (∀ b, K b → b < w.heap.size) := hK
 have HQ : Hid (small x.t ∧ small x.j ∧ I64 x.w ∧ I64 x.l ∧ I64 x.r) := ⟨q1, q2, q3, q4, q5⟩
 obtain ⟨W0, hW0, t0, hs0⟩ := Two.start w 54 #[.string x.t, .string x.j, .int .i64 x.w, .int .i64 x.l, .int .i64 x.r, .slice za1 x.wh.length ya1, .slice za2 x.g.length ya2, .slice za3 x.i.length ya3, .bool x.gr, .slice za4 x.nm.length ya4, .slice za5 x.kd.length ya5] #[.string ⟨#[]⟩, .string ⟨#[]⟩, .int .i64 0, .int .i64 0, .int .i64 0, .slice none 0 0, .slice none 0 0, .slice none 0 0, .bool false, .slice none 0 0, .slice none 0 0] rfl
 have HT0 : Hid (Two 54 [.string x.t, .string x.j, .int .i64 x.w, .int .i64 x.l, .int .i64 x.r, .slice za1 x.wh.length ya1, .slice za2 x.g.length ya2, .slice za3 x.i.length ya3, .bool x.gr, .slice za4 x.nm.length ya4, .slice za5 x.kd.length ya5] w W0) := t0
 clear t0 hK nn1 mm1 n1 nn2 mm2 n2 nn3 mm3 n3 nn4 mm4 n4 nn5 mm5 n5 q1 q2 q3 q4 q5
 go_enter Tryz.func43, Tryz.ntmps43
 have C1 := hid (clone_any x.t W0 (by have := HQ.out.1; unfold small at this; omega))
 have c1 := HT0.out.cell (k := 0) (v := .string x.t) rfl
 go_wp2_with fail
 refine C1.out.mono ?_
 rintro e w1 ⟨rfl, hb1⟩
 have T1 : Hid (Two 54 [.string x.t, .string x.j, .int .i64 x.w, .int .i64 x.l, .int .i64 x.r, .slice za1 x.wh.length ya1, .slice za2 x.g.length ya2, .slice za3 x.i.length ya3, .bool x.gr, .slice za4 x.nm.length ya4, .slice za5 x.kd.length ya5] w w1) := HT0.out.call hb1
 clear c1 C1
 have d1 := T1.out.cell (k := 0) (v := .string x.t) rfl
 have f1 := frozen_zero T1.out.1 0
 have e1 : w1.setCell ⟨w.heap.size, 0, none⟩ (.string x.t) = w1 := setCell_self T1.out.1 rfl
 clear hb1
 have C2 := hid (clone_any x.j w1 (by have := HQ.out.2.1; unfold small at this; omega))
 have c2 := T1.out.cell (k := 1) (v := .string x.j) rfl
 go_wp2_with fail
 refine C2.out.mono ?_
 rintro e w2 ⟨rfl, hb2⟩
 have T2 : Hid (Two 54 [.string x.t, .string x.j, .int .i64 x.w, .int .i64 x.l, .int .i64 x.r, .slice za1 x.wh.length ya1, .slice za2 x.g.length ya2, .slice za3 x.i.length ya3, .bool x.gr, .slice za4 x.nm.length ya4, .slice za5 x.kd.length ya5] w w2) := T1.out.call hb2
 clear c2 C2
 have d2 := T2.out.cell (k := 1) (v := .string x.j) rfl
 have f2 := frozen_zero T2.out.1 1
 have e2 : w2.setCell ⟨w.heap.size, 1, none⟩ (.string x.j) = w2 := setCell_self T2.out.1 rfl
 clear hb2
 have C3 : Hid (Calls Tryz.prog 67 #[.slice za1 x.wh.length ya1, .func (.func 68) #[] #[]] w2 fun e w' => CpP rStp 3 32 x.wh w2 e w') := each_stp f_step K w2 _ _ (ListIs.later mStp HL1.out HK.out T2.out.2.2) (fun b hb => Nat.lt_of_lt_of_le (HK.out b hb) T2.out.2.2.size)
 have c3 := T2.out.cell (k := 5) (v := .slice za1 x.wh.length ya1) rfl
 go_wp2_with fail
 refine C3.out.mono ?_
 rintro e w3 ⟨p3, r3, rfl, hl3, hb3⟩
 have T3' : Two 54 [.string x.t, .string x.j, .int .i64 x.w, .int .i64 x.l, .int .i64 x.r, .slice za1 x.wh.length ya1, .slice za2 x.g.length ya2, .slice za3 x.i.length ya3, .bool x.gr, .slice za4 x.nm.length ya4, .slice za5 x.kd.length ya5] w w3 := T2.out.call hb3
 clear c3 C3
 obtain ⟨V3, hV3, f3, t3, s3, k3⟩ := T3'.put (k := 5) (by simp) (.slice p3 x.wh.length r3)
 have d3 := T3'.cell (k := 5) (v := .slice za1 x.wh.length ya1) rfl
 have T3 : Hid (Two 54 [.string x.t, .string x.j, .int .i64 x.w, .int .i64 x.l, .int .i64 x.r, .slice p3 x.wh.length r3, .slice za2 x.g.length ya2, .slice za3 x.i.length ya3, .bool x.gr, .slice za4 x.nm.length ya4, .slice za5 x.kd.length ya5] w V3) := t3
 have L3 : Hid (ListIs rStp 3 32 (From (w.heap.size + 2) V3) V3 (.slice p3 x.wh.length r3) x.wh) := (hl3.less mStp T2.out.lt).kept mStp k3
 clear hb3 hl3 T3' t3 s3 k3
 have C4 : Hid (Calls Tryz.prog 47 #[.slice za2 x.g.length ya2] V3 fun e w' => CpP rInt 1 8 x.g V3 e w') := plain_ints K V3 _ _ (ListIs.later mInt HL2.out HK.out T3.out.2.2) (fun b hb => Nat.lt_of_lt_of_le (HK.out b hb) T3.out.2.2.size)
 have c4 := T3.out.cell (k := 6) (v := .slice za2 x.g.length ya2) rfl
 go_wp2_with fail
 refine C4.out.mono ?_
 rintro e w4 ⟨p4, r4, rfl, hl4, hb4⟩
 have T4' : Two 54 [.string x.t, .string x.j, .int .i64 x.w, .int .i64 x.l, .int .i64 x.r, .slice p3 x.wh.length r3, .slice za2 x.g.length ya2, .slice za3 x.i.length ya3, .bool x.gr, .slice za4 x.nm.length ya4, .slice za5 x.kd.length ya5] w w4 := T3.out.call hb4
 clear c4 C4
 obtain ⟨V4, hV4, f4, t4, s4, k4⟩ := T4'.put (k := 6) (by simp) (.slice p4 x.g.length r4)
 have d4 := T4'.cell (k := 6) (v := .slice za2 x.g.length ya2) rfl
 have T4 : Hid (Two 54 [.string x.t, .string x.j, .int .i64 x.w, .int .i64 x.l, .int .i64 x.r, .slice p3 x.wh.length r3, .slice p4 x.g.length r4, .slice za3 x.i.length ya3, .bool x.gr, .slice za4 x.nm.length ya4, .slice za5 x.kd.length ya5] w V4) := t4
 have L3_4 := hid ((L3.out.grow mStp hb4).kept mStp k4)
 have L4 : Hid (ListIs rInt 1 8 (From (w.heap.size + 2) V4) V4 (.slice p4 x.g.length r4) x.g) := (hl4.less mInt T3.out.lt).kept mInt k4
 clear hb4 hl4 T4' t4 s4 k4
 have C5 : Hid (Calls Tryz.prog 69 #[.slice za3 x.i.length ya3, .func (.func 70) #[] #[]] V4 fun e w' => CpP rItm 2 32 x.i V4 e w') := each_itm f_item K V4 _ _ (ListIs.later mItm HL3.out HK.out T4.out.2.2) (fun b hb => Nat.lt_of_lt_of_le (HK.out b hb) T4.out.2.2.size)
 have c5 := T4.out.cell (k := 7) (v := .slice za3 x.i.length ya3) rfl
 go_wp2_with fail
 refine C5.out.mono ?_
 rintro e w5 ⟨p5, r5, rfl, hl5, hb5⟩
 have T5' : Two 54 [.string x.t, .string x.j, .int .i64 x.w, .int .i64 x.l, .int .i64 x.r, .slice p3 x.wh.length r3, .slice p4 x.g.length r4, .slice za3 x.i.length ya3, .bool x.gr, .slice za4 x.nm.length ya4, .slice za5 x.kd.length ya5] w w5 := T4.out.call hb5
 clear c5 C5
 obtain ⟨V5, hV5, f5, t5, s5, k5⟩ := T5'.put (k := 7) (by simp) (.slice p5 x.i.length r5)
 have d5 := T5'.cell (k := 7) (v := .slice za3 x.i.length ya3) rfl
 have T5 : Hid (Two 54 [.string x.t, .string x.j, .int .i64 x.w, .int .i64 x.l, .int .i64 x.r, .slice p3 x.wh.length r3, .slice p4 x.g.length r4, .slice p5 x.i.length r5, .bool x.gr, .slice za4 x.nm.length ya4, .slice za5 x.kd.length ya5] w V5) := t5
 have L3_4_5 := hid ((L3_4.out.grow mStp hb5).kept mStp k5)
 have L4_5 := hid ((L4.out.grow mInt hb5).kept mInt k5)
 have L5 : Hid (ListIs rItm 2 32 (From (w.heap.size + 2) V5) V5 (.slice p5 x.i.length r5) x.i) := (hl5.less mItm T4.out.lt).kept mItm k5
 clear hb5 hl5 T5' t5 s5 k5
 have C6 : Hid (Calls Tryz.prog 71 #[.slice za4 x.nm.length ya4, .func (.func 66) #[] #[]] V5 fun e w' => CpP rTxt 1 16 x.nm V5 e w') := each_txt f_text K V5 _ _ (ListIs.later mTxt HL4.out HK.out T5.out.2.2) (fun b hb => Nat.lt_of_lt_of_le (HK.out b hb) T5.out.2.2.size)
 have c6 := T5.out.cell (k := 9) (v := .slice za4 x.nm.length ya4) rfl
 go_wp2_with fail
 refine C6.out.mono ?_
 rintro e w6 ⟨p6, r6, rfl, hl6, hb6⟩
 have T6' : Two 54 [.string x.t, .string x.j, .int .i64 x.w, .int .i64 x.l, .int .i64 x.r, .slice p3 x.wh.length r3, .slice p4 x.g.length r4, .slice p5 x.i.length r5, .bool x.gr, .slice za4 x.nm.length ya4, .slice za5 x.kd.length ya5] w w6 := T5.out.call hb6
 clear c6 C6
 obtain ⟨V6, hV6, f6, t6, s6, k6⟩ := T6'.put (k := 9) (by simp) (.slice p6 x.nm.length r6)
 have d6 := T6'.cell (k := 9) (v := .slice za4 x.nm.length ya4) rfl
 have T6 : Hid (Two 54 [.string x.t, .string x.j, .int .i64 x.w, .int .i64 x.l, .int .i64 x.r, .slice p3 x.wh.length r3, .slice p4 x.g.length r4, .slice p5 x.i.length r5, .bool x.gr, .slice p6 x.nm.length r6, .slice za5 x.kd.length ya5] w V6) := t6
 have L3_4_5_6 := hid ((L3_4_5.out.grow mStp hb6).kept mStp k6)
 have L4_5_6 := hid ((L4_5.out.grow mInt hb6).kept mInt k6)
 have L5_6 := hid ((L5.out.grow mItm hb6).kept mItm k6)
 have L6 : Hid (ListIs rTxt 1 16 (From (w.heap.size + 2) V6) V6 (.slice p6 x.nm.length r6) x.nm) := (hl6.less mTxt T5.out.lt).kept mTxt k6
 clear hb6 hl6 T6' t6 s6 k6
 have C7 : Hid (Calls Tryz.prog 72 #[.slice za5 x.kd.length ya5] V6 fun e w' => CpP rKnd 1 1 x.kd V6 e w') := plain_knds K V6 _ _ (ListIs.later mKnd HL5.out HK.out T6.out.2.2) (fun b hb => Nat.lt_of_lt_of_le (HK.out b hb) T6.out.2.2.size)
 have c7 := T6.out.cell (k := 10) (v := .slice za5 x.kd.length ya5) rfl
 go_wp2_with fail
 refine C7.out.mono ?_
 rintro e w7 ⟨p7, r7, rfl, hl7, hb7⟩
 have T7' : Two 54 [.string x.t, .string x.j, .int .i64 x.w, .int .i64 x.l, .int .i64 x.r, .slice p3 x.wh.length r3, .slice p4 x.g.length r4, .slice p5 x.i.length r5, .bool x.gr, .slice p6 x.nm.length r6, .slice za5 x.kd.length ya5] w w7 := T6.out.call hb7
 clear c7 C7
 obtain ⟨V7, hV7, f7, t7, s7, k7⟩ := T7'.put (k := 10) (by simp) (.slice p7 x.kd.length r7)
 have d7 := T7'.cell (k := 10) (v := .slice za5 x.kd.length ya5) rfl
 have T7 : Hid (Two 54 [.string x.t, .string x.j, .int .i64 x.w, .int .i64 x.l, .int .i64 x.r, .slice p3 x.wh.length r3, .slice p4 x.g.length r4, .slice p5 x.i.length r5, .bool x.gr, .slice p6 x.nm.length r6, .slice p7 x.kd.length r7] w V7) := t7
 have L3_4_5_6_7 := hid ((L3_4_5_6.out.grow mStp hb7).kept mStp k7)
 have L4_5_6_7 := hid ((L4_5_6.out.grow mInt hb7).kept mInt k7)
 have L5_6_7 := hid ((L5_6.out.grow mItm hb7).kept mItm k7)
 have L6_7 := hid ((L6.out.grow mTxt hb7).kept mTxt k7)
 have L7 : Hid (ListIs rKnd 1 1 (From (w.heap.size + 2) V7) V7 (.slice p7 x.kd.length r7) x.kd) := (hl7.less mKnd T6.out.lt).kept mKnd k7
 clear hb7 hl7 T7' t7 s7 k7
 obtain ⟨hra, hth, W5, hW5, hld, hb5, s5, k5⟩ := T7.out.ret Tryz.underlying54 rfl sz_bound
 have HRA : Hid (V7.rangeAt w.heap.size 0 [.string x.t, .string x.j, .int .i64 x.w, .int .i64 x.l, .int .i64 x.r, .slice p3 x.wh.length r3, .slice p4 x.g.length r4, .slice p5 x.i.length r5, .bool x.gr, .slice p6 x.nm.length r6, .slice p7 x.kd.length r7]) := hra
 have HTH : Hid (V7.there (w.heap.size + 1) 0 11) := hth
 have HW5 : Hid (V7.setCells (w.heap.size + 1) 0 (#[.string x.t, .string x.j, .int .i64 x.w, .int .i64 x.l, .int .i64 x.r, .slice p3 x.wh.length r3, .slice p4 x.g.length r4, .slice p5 x.i.length r5, .bool x.gr, .slice p6 x.nm.length r6, .slice p7 x.kd.length r7] : Array Value).toList = W5) := hW5
 have HON : Hid ((#[.string x.t, .string x.j, .int .i64 x.w, .int .i64 x.l, .int .i64 x.r, .slice p3 x.wh.length r3, .slice p4 x.g.length r4, .slice p5 x.i.length r5, .bool x.gr, .slice p6 x.nm.length r6, .slice p7 x.kd.length r7] : Array Value).all (·.oneCell') = true) := by show _ = _; simp [Value.oneCell']
 have HLD : Hid ((loadVar 54 ⟨w.heap.size + 1, 0, none⟩).run Tryz.prog W5 = .ok (.agg #[.string x.t, .string x.j, .int .i64 x.w, .int .i64 x.l, .int .i64 x.r, .slice p3 x.wh.length r3, .slice p4 x.g.length r4, .slice p5 x.i.length r5, .bool x.gr, .slice p6 x.nm.length r6, .slice p7 x.kd.length r7]) W5) := hld
 have HBF : Hid (Below w.heap.size w W5) := hb5
 have M0 := hid ((L3_4_5_6_7.out.kept mStp k5).less mStp (C := w.heap.size) (by omega))
 have M1 := hid ((L4_5_6_7.out.kept mInt k5).less mInt (C := w.heap.size) (by omega))
 have M2 := hid ((L5_6_7.out.kept mItm k5).less mItm (C := w.heap.size) (by omega))
 have M3 := hid ((L6_7.out.kept mTxt k5).less mTxt (C := w.heap.size) (by omega))
 have M4 := hid ((L7.out.kept mKnd k5).less mKnd (C := w.heap.size) (by omega))
 clear hra hth hW5 hld hb5 s5 k5
 go_wp2_with (first | (refine wpList_load_mid rfl 54 _ rfl w.heap.size 0 rfl _ _ HRA.out Tryz.underlying54 rfl sz_bound ?_) | (refine wpList_store_mid rfl 54 _ _ rfl (w.heap.size + 1) 0 #[.string x.t, .string x.j, .int .i64 x.w, .int .i64 x.l, .int .i64 x.r, .slice p3 x.wh.length r3, .slice p4 x.g.length r4, .slice p5 x.i.length r5, .bool x.gr, .slice p6 x.nm.length r6, .slice p7 x.kd.length r7] rfl rfl HTH.out sz_bound HON.out ?_; rw [HW5.out]))
 refine bodyPost_ret (v := .agg #[.string x.t, .string x.j, .int .i64 x.w, .int .i64 x.l, .int .i64 x.r, .slice p3 x.wh.length r3, .slice p4 x.g.length r4, .slice p5 x.i.length r5, .bool x.gr, .slice p6 x.nm.length r6, .slice p7 x.kd.length r7]) (by simp only [results, Tryz.results43]; simp [asAddr, Act.put, HLD.out]) rfl ?_
 have hq := HQ.out
 exact ⟨[.string x.t, .string x.j, .int .i64 x.w, .int .i64 x.l, .int .i64 x.r, .slice p3 x.wh.length r3, .slice p4 x.g.length r4, .slice p5 x.i.length r5, .bool x.gr, .slice p6 x.nm.length r6, .slice p7 x.kd.length r7], rfl, ⟨_, _, _, _, _, rfl, hq.1, hq.2.1, hq.2.2.1, hq.2.2.2.1, hq.2.2.2.2, M0.out, M1.out, M2.out, M3.out, M4.out⟩, HBF.out⟩
end Go.Proofs.YtajomnfeicfdlaaGreatDoor
