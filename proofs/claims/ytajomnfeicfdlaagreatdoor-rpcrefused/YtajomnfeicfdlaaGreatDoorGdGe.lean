/- New memory: values, steps, columns, items, rows. -/
import Derived.Test.YtajomnfeicfdlaaGreatDoorGcvalGcstpGcitmGctxtGcclGcrowGctblGcclmGcints
namespace Go.Proofs.YtajomnfeicfdlaaGreatDoor
open Go.Shelf Go.RowKit Go.Lib
set_option linter.unusedVariables false
set_option linter.unusedSimpArgs false
attribute [local go_sem ↓] Go.wp_at_zero Go.wp_at_succ
theorem Two.mids {t : TypeId} {pre cs post : List Value} {w W : World} (h : Two t (pre ++ cs ++ post) w W) : W.rangeAt w.heap.size pre.length cs := fun j u hj => by
 refine h.cell ?_
 have hjl := (List.getElem?_eq_some_iff.1 hj).1
 rw [List.append_assoc, List.getElem?_append_right (by omega), show pre.length + j - pre.length = j by omega, List.getElem?_append_left hjl]
 exact hj
theorem mid_eq {cl cl' cs : List Value} {lo : Nat} (hl : cl'.length = cl.length) (c : ∀ (j : Nat) (u : Value), cs[j]? = some u → cl'[lo + j]? = some u) (o : ∀ k, k < lo ∨ lo + cs.length ≤ k → cl'[k]? = cl[k]?) (h : lo + cs.length ≤ cl.length) : cl' = cl.take lo ++ cs ++ cl.drop (lo + cs.length) := by
 apply List.ext_getElem?
 intro k
 have ht : (cl.take lo).length = lo := by rw [List.length_take]; omega
 by_cases h1 : k < lo
 ·rw [o k (.inl h1), List.append_assoc, List.getElem?_append_left (by omega), List.getElem?_take_of_lt h1]
 ·by_cases h2 : k < lo + cs.length
  ·rw [List.append_assoc, List.getElem?_append_right (by omega), ht, List.getElem?_append_left (by omega)]
   have := c (k - lo) cs[k - lo] (List.getElem?_eq_getElem (by omega))
   rw [show lo + (k - lo) = k by omega] at this
   rw [this, List.getElem?_eq_getElem (by omega)]
  ·rw [o k (.inr (by omega)), List.getElem?_append_right (by rw [List.length_append]; omega), List.length_append, ht, List.getElem?_drop]
   congr 1
   omega
theorem sz_value : (Tryz.prog.info? 184).map (·.size) = some 4 := by kernel_rfl
set_option maxRecDepth 100000 in
set_option maxHeartbeats 4000000 in
theorem f_value : FreshC rVal 99 := by
 intro K w cs x h hK
 obtain ⟨rfl, q1, q2, q3⟩ := h
 show Calls Tryz.prog 99 #[.agg #[.int .u8 x.k, .bool x.b, .int .i64 x.n, .string x.s]] w _
 have HK : Hid (∀ b, K b → b < w.heap.size) := hK
 have HQ : Hid ((0 ≤ x.k ∧ x.k < 256) ∧ I64 x.n ∧ small x.s) := ⟨q1, q2, q3⟩
 obtain ⟨W0, hW0, t0, hs0⟩ := Two.start w 184 #[.int .u8 x.k, .bool x.b, .int .i64 x.n, .string x.s] #[.int .u8 0, .bool false, .int .i64 0, .string ⟨#[]⟩] rfl
 have HT0 : Hid (Two 184 [.int .u8 x.k, .bool x.b, .int .i64 x.n, .string x.s] w W0) := t0
 clear t0 hK  q1 q2 q3
 go_enter Tryz.func99, Tryz.ntmps99
 have C1 := hid (clone_any x.s W0 (by have := HQ.out.2.2; unfold small at this; omega))
 have c1 := HT0.out.cell (k := 3) (v := .string x.s) rfl
 go_wp2_with fail
 refine C1.out.mono ?_
 rintro e w1 ⟨rfl, hb1⟩
 have T1 : Hid (Two 184 [.int .u8 x.k, .bool x.b, .int .i64 x.n, .string x.s] w w1) := HT0.out.call hb1
 clear c1 C1
 have d1 := T1.out.cell (k := 3) (v := .string x.s) rfl
 have f1 := frozen_zero T1.out.1 3
 have e1 : w1.setCell ⟨w.heap.size, 3, none⟩ (.string x.s) = w1 := setCell_self T1.out.1 rfl
 clear hb1
 obtain ⟨hra, hth, W5, hW5, hld, hb5, s5, k5⟩ := T1.out.ret Tryz.underlying184 rfl sz_value
 have HRA : Hid (w1.rangeAt w.heap.size 0 [.int .u8 x.k, .bool x.b, .int .i64 x.n, .string x.s]) := hra
 have HTH : Hid (w1.there (w.heap.size + 1) 0 4) := hth
 have HW5 : Hid (w1.setCells (w.heap.size + 1) 0 (#[.int .u8 x.k, .bool x.b, .int .i64 x.n, .string x.s] : Array Value).toList = W5) := hW5
 have HON : Hid ((#[.int .u8 x.k, .bool x.b, .int .i64 x.n, .string x.s] : Array Value).all (·.oneCell') = true) := by show _ = _; simp [Value.oneCell']
 have HLD : Hid ((loadVar 184 ⟨w.heap.size + 1, 0, none⟩).run Tryz.prog W5 = .ok (.agg #[.int .u8 x.k, .bool x.b, .int .i64 x.n, .string x.s]) W5) := hld
 have HBF : Hid (Below w.heap.size w W5) := hb5
 clear hra hth hW5 hld hb5 s5 k5
 go_wp2_with (first | (refine wpList_load_mid rfl 184 _ rfl w.heap.size 0 rfl _ _ HRA.out Tryz.underlying184 rfl sz_value ?_) | (refine wpList_store_mid rfl 184 _ _ rfl (w.heap.size + 1) 0 #[.int .u8 x.k, .bool x.b, .int .i64 x.n, .string x.s] rfl rfl HTH.out sz_value HON.out ?_; rw [HW5.out]))
 refine bodyPost_ret (v := .agg #[.int .u8 x.k, .bool x.b, .int .i64 x.n, .string x.s]) (by simp only [results, Tryz.results99]; simp [asAddr, Act.put, HLD.out]) rfl ?_
 have hq := HQ.out
 exact ⟨[.int .u8 x.k, .bool x.b, .int .i64 x.n, .string x.s], rfl, ⟨rfl, hq.1, hq.2.1, hq.2.2⟩, HBF.out⟩
theorem sz_step : (Tryz.prog.info? 137).map (·.size) = some 3 := by kernel_rfl
set_option maxRecDepth 100000 in
set_option maxHeartbeats 4000000 in
theorem f_step : FreshC rStp 68 := by
 intro K w cs x h hK
 obtain ⟨rfl, q1, q2, q3⟩ := h
 show Calls Tryz.prog 68 #[.agg #[.int .u8 (x.k : Int), .string x.t, .int .i64 x.n]] w _
 have HK : Hid (∀ b, K b → b < w.heap.size) := hK
 have HQ : Hid (x.k < 256 ∧ small x.t ∧ I64 x.n) := ⟨q1, q2, q3⟩
 obtain ⟨W0, hW0, t0, hs0⟩ := Two.start w 137 #[.int .u8 (x.k : Int), .string x.t, .int .i64 x.n] #[.int .u8 0, .string ⟨#[]⟩, .int .i64 0] rfl
 have HT0 : Hid (Two 137 [.int .u8 (x.k : Int), .string x.t, .int .i64 x.n] w W0) := t0
 clear t0 hK  q1 q2 q3
 go_enter Tryz.func68, Tryz.ntmps68
 have C1 := hid (clone_any x.t W0 (by have := HQ.out.2.1; unfold small at this; omega))
 have c1 := HT0.out.cell (k := 1) (v := .string x.t) rfl
 go_wp2_with fail
 refine C1.out.mono ?_
 rintro e w1 ⟨rfl, hb1⟩
 have T1 : Hid (Two 137 [.int .u8 (x.k : Int), .string x.t, .int .i64 x.n] w w1) := HT0.out.call hb1
 clear c1 C1
 have d1 := T1.out.cell (k := 1) (v := .string x.t) rfl
 have f1 := frozen_zero T1.out.1 1
 have e1 : w1.setCell ⟨w.heap.size, 1, none⟩ (.string x.t) = w1 := setCell_self T1.out.1 rfl
 clear hb1
 obtain ⟨hra, hth, W5, hW5, hld, hb5, s5, k5⟩ := T1.out.ret Tryz.underlying137 rfl sz_step
 have HRA : Hid (w1.rangeAt w.heap.size 0 [.int .u8 (x.k : Int), .string x.t, .int .i64 x.n]) := hra
 have HTH : Hid (w1.there (w.heap.size + 1) 0 3) := hth
 have HW5 : Hid (w1.setCells (w.heap.size + 1) 0 (#[.int .u8 (x.k : Int), .string x.t, .int .i64 x.n] : Array Value).toList = W5) := hW5
 have HON : Hid ((#[.int .u8 (x.k : Int), .string x.t, .int .i64 x.n] : Array Value).all (·.oneCell') = true) := by show _ = _; simp [Value.oneCell']
 have HLD : Hid ((loadVar 137 ⟨w.heap.size + 1, 0, none⟩).run Tryz.prog W5 = .ok (.agg #[.int .u8 (x.k : Int), .string x.t, .int .i64 x.n]) W5) := hld
 have HBF : Hid (Below w.heap.size w W5) := hb5
 clear hra hth hW5 hld hb5 s5 k5
 go_wp2_with (first | (refine wpList_load_mid rfl 137 _ rfl w.heap.size 0 rfl _ _ HRA.out Tryz.underlying137 rfl sz_step ?_) | (refine wpList_store_mid rfl 137 _ _ rfl (w.heap.size + 1) 0 #[.int .u8 (x.k : Int), .string x.t, .int .i64 x.n] rfl rfl HTH.out sz_step HON.out ?_; rw [HW5.out]))
 refine bodyPost_ret (v := .agg #[.int .u8 (x.k : Int), .string x.t, .int .i64 x.n]) (by simp only [results, Tryz.results68]; simp [asAddr, Act.put, HLD.out]) rfl ?_
 have hq := HQ.out
 exact ⟨[.int .u8 (x.k : Int), .string x.t, .int .i64 x.n], rfl, ⟨rfl, hq.1, hq.2.1, hq.2.2⟩, HBF.out⟩
theorem sz_column : (Tryz.prog.info? 150).map (·.size) = some 2 := by kernel_rfl
set_option maxRecDepth 100000 in
set_option maxHeartbeats 4000000 in
theorem f_column : FreshC rCl 75 := by
 intro K w cs x h hK
 obtain ⟨rfl, q1, q2⟩ := h
 show Calls Tryz.prog 75 #[.agg #[.string x.n, .int .u8 (x.k : Int)]] w _
 have HK : Hid (∀ b, K b → b < w.heap.size) := hK
 have HQ : Hid (small x.n ∧ x.k < 256) := ⟨q1, q2⟩
 obtain ⟨W0, hW0, t0, hs0⟩ := Two.start w 150 #[.string x.n, .int .u8 (x.k : Int)] #[.string ⟨#[]⟩, .int .u8 0] rfl
 have HT0 : Hid (Two 150 [.string x.n, .int .u8 (x.k : Int)] w W0) := t0
 clear t0 hK  q1 q2
 go_enter Tryz.func75, Tryz.ntmps75
 have C1 := hid (clone_any x.n W0 (by have := HQ.out.1; unfold small at this; omega))
 have c1 := HT0.out.cell (k := 0) (v := .string x.n) rfl
 go_wp2_with fail
 refine C1.out.mono ?_
 rintro e w1 ⟨rfl, hb1⟩
 have T1 : Hid (Two 150 [.string x.n, .int .u8 (x.k : Int)] w w1) := HT0.out.call hb1
 clear c1 C1
 have d1 := T1.out.cell (k := 0) (v := .string x.n) rfl
 have f1 := frozen_zero T1.out.1 0
 have e1 : w1.setCell ⟨w.heap.size, 0, none⟩ (.string x.n) = w1 := setCell_self T1.out.1 rfl
 clear hb1
 obtain ⟨hra, hth, W5, hW5, hld, hb5, s5, k5⟩ := T1.out.ret Tryz.underlying150 rfl sz_column
 have HRA : Hid (w1.rangeAt w.heap.size 0 [.string x.n, .int .u8 (x.k : Int)]) := hra
 have HTH : Hid (w1.there (w.heap.size + 1) 0 2) := hth
 have HW5 : Hid (w1.setCells (w.heap.size + 1) 0 (#[.string x.n, .int .u8 (x.k : Int)] : Array Value).toList = W5) := hW5
 have HON : Hid ((#[.string x.n, .int .u8 (x.k : Int)] : Array Value).all (·.oneCell') = true) := by show _ = _; simp [Value.oneCell']
 have HLD : Hid ((loadVar 150 ⟨w.heap.size + 1, 0, none⟩).run Tryz.prog W5 = .ok (.agg #[.string x.n, .int .u8 (x.k : Int)]) W5) := hld
 have HBF : Hid (Below w.heap.size w W5) := hb5
 clear hra hth hW5 hld hb5 s5 k5
 go_wp2_with (first | (refine wpList_load_mid rfl 150 _ rfl w.heap.size 0 rfl _ _ HRA.out Tryz.underlying150 rfl sz_column ?_) | (refine wpList_store_mid rfl 150 _ _ rfl (w.heap.size + 1) 0 #[.string x.n, .int .u8 (x.k : Int)] rfl rfl HTH.out sz_column HON.out ?_; rw [HW5.out]))
 refine bodyPost_ret (v := .agg #[.string x.n, .int .u8 (x.k : Int)]) (by simp only [results, Tryz.results75]; simp [asAddr, Act.put, HLD.out]) rfl ?_
 have hq := HQ.out
 exact ⟨[.string x.n, .int .u8 (x.k : Int)], rfl, ⟨rfl, hq.1, hq.2⟩, HBF.out⟩
theorem f_text : FreshC rTxt 66 := by
 intro K w cs x h hK
 obtain ⟨rfl, q1⟩ := h
 show Calls Tryz.prog 66 #[.string x] w _
 refine (clone_any x w (by unfold small at q1; omega)).mono ?_
 rintro e w' ⟨rfl, hb⟩
 exact ⟨[.string x], rfl, ⟨rfl, q1⟩, hb⟩
theorem f_row : FreshC rRow 78 := by
 intro K w cs x h hK
 obtain ⟨v, rfl, h1⟩ := h
 show Calls Tryz.prog 78 #[v] w _
 have C : Hid (Calls Tryz.prog 98 #[v, .func (.func 99) #[] #[]] w fun e w' => CpP rVal 4 32 x w e w') := each_val f_value K w v x h1 hK
 clear h1 hK
 go_enter Tryz.func78, Tryz.ntmps78
 go_wp2_with fail
 refine C.out.mono ?_
 rintro e w1 ⟨p, c, rfl, hl, hb⟩
 have HF : Hid (ListIs rVal 4 32 (From w.heap.size w1) w1 (.slice p x.length c) x ∧ Below w.heap.size w w1) := ⟨hl, hb⟩
 clear hl hb
 go_wp2_with fail
 go_ret
 exact ⟨[_], rfl, ⟨_, rfl, HF.out.1⟩, HF.out.2⟩
theorem f_rows : FreshL rRow 1 24 48 #[] := by
 intro K w v xs h hK
 show Calls Tryz.prog 48 #[v] w _
 have C : Hid (Calls Tryz.prog 77 #[v, .func (.func 78) #[] #[]] w fun e w' => CpP rRow 1 24 xs w e w') := each_row f_row K w v xs h hK
 clear h hK
 go_enter Tryz.func48, Tryz.ntmps48
 go_wp2_with fail
 refine C.out.mono ?_
 rintro e w1 ⟨p, c, rfl, hl, hb⟩
 have HF : Hid (ListIs rRow 1 24 (From w.heap.size w1) w1 (.slice p xs.length c) xs ∧ Below w.heap.size w w1) := ⟨hl, hb⟩
 clear hl hb
 go_wp2_with fail
 go_ret
 exact ⟨_, _, rfl, HF.out⟩
theorem inE_int : ∃ i0, Tryz.prog.info? 3 = some i0 ∧ i0.zero = some (.int .i64 0) ∧ i0.size = 1 ∧ i0.bytes = 8 := by
 have h1 : (Tryz.prog.info? 3).bind (·.zero) = some (.int .i64 0) := by kernel_rfl
 have h2 : (Tryz.prog.info? 3).map (·.size) = some 1 := by kernel_rfl
 have h3 : (Tryz.prog.info? 3).map (·.bytes) = some 8 := by kernel_rfl
 generalize Tryz.prog.info? 3 = i at *
 cases i with
 | none => cases h1
 | some i => exact ⟨i, rfl, h1, Option.some.inj h2, Option.some.inj h3⟩
theorem plain_ints : FreshL rInt 1 8 47 #[] := by
 intro K w v xs h hK
 show Calls Tryz.prog 47 #[v] w _
 obtain ⟨k0, hk0, hk1, hk2, hk3⟩ := inE_int
 obtain ⟨W', p, c, hrun, hl, hb⟩ := cpy_nil fInt Tryz.underlying49 hk0 hk1 hk2 hk3 rfl (by omega) (by omega) h
 have HF : Hid (ListIs rInt 1 8 (From w.heap.size W') W' (.slice p xs.length c) xs ∧ Below w.heap.size w W') := ⟨hl, hb⟩
 obtain ⟨z1, y1, rfl, nn, mm⟩ := id h
 clear h hK hl hb nn mm
 go_enter Tryz.func47, Tryz.ntmps47
 go_wp2_with (at_builtin; refine Lib.wpList_append_run _ rfl _ _ _ _ rfl _ _ rfl rfl _ _ hrun ?_)
 go_ret
 exact ⟨_, _, rfl, HF.out⟩
theorem inE_knd : ∃ i0, Tryz.prog.info? 146 = some i0 ∧ i0.zero = some (.int .u8 0) ∧ i0.size = 1 ∧ i0.bytes = 1 := by
 have h1 : (Tryz.prog.info? 146).bind (·.zero) = some (.int .u8 0) := by kernel_rfl
 have h2 : (Tryz.prog.info? 146).map (·.size) = some 1 := by kernel_rfl
 have h3 : (Tryz.prog.info? 146).map (·.bytes) = some 1 := by kernel_rfl
 generalize Tryz.prog.info? 146 = i at *
 cases i with
 | none => cases h1
 | some i => exact ⟨i, rfl, h1, Option.some.inj h2, Option.some.inj h3⟩
theorem plain_knds : FreshL rKnd 1 1 72 #[] := by
 intro K w v xs h hK
 show Calls Tryz.prog 72 #[v] w _
 obtain ⟨k0, hk0, hk1, hk2, hk3⟩ := inE_knd
 obtain ⟨W', p, c, hrun, hl, hb⟩ := cpy_nil fKnd Tryz.underlying52 hk0 hk1 hk2 hk3 rfl (by omega) (by omega) h
 have HF : Hid (ListIs rKnd 1 1 (From w.heap.size W') W' (.slice p xs.length c) xs ∧ Below w.heap.size w W') := ⟨hl, hb⟩
 obtain ⟨z1, y1, rfl, nn, mm⟩ := id h
 clear h hK hl hb nn mm
 go_enter Tryz.func72, Tryz.ntmps72
 go_wp2_with (at_builtin; refine Lib.wpList_append_run _ rfl _ _ _ _ rfl _ _ rfl rfl _ _ hrun ?_)
 go_ret
 exact ⟨_, _, rfl, HF.out⟩
theorem f_ints : FreshC rInts 47 := by
 intro K w cs x h hK
 obtain ⟨v, rfl, h1⟩ := h
 show Calls Tryz.prog 47 #[v] w _
 refine (show Calls Tryz.prog 47 #[v] w fun e w' => CpP rInt 1 8 x w e w' from plain_ints K w v x h1 hK).mono ?_
 rintro e w1 ⟨p, c, rfl, hl, hb⟩
 exact ⟨[_], rfl, ⟨_, rfl, hl⟩, hb⟩
theorem sz_item : (Tryz.prog.info? 142).map (·.size) = some 2 := by kernel_rfl
set_option maxRecDepth 100000 in
set_option maxHeartbeats 4000000 in
theorem f_item : FreshC rItm 70 := by
 intro K w cs x h hK
 obtain ⟨v1, rfl, q1, n1⟩ := h
 have HL1 : Hid (ListIs rStp 3 32 K w v1 x.e) := n1
 obtain ⟨za1, ya1, rfl, nn1, mm1⟩ := id n1
 show Calls Tryz.prog 70 #[.agg #[.int .u8 (x.g : Int), .slice za1 x.e.length ya1]] w _
 have HK : Hid (∀ b, K b → b < w.heap.size) := hK
 have HQ : Hid (x.g < 256) := q1
 obtain ⟨W0, hW0, t0, hs0⟩ := Two.start w 142 #[.int .u8 (x.g : Int), .slice za1 x.e.length ya1] #[.int .u8 0, .slice none 0 0] rfl
 have HT0 : Hid (Two 142 [.int .u8 (x.g : Int), .slice za1 x.e.length ya1] w W0) := t0
 clear t0 hK nn1 mm1 n1 q1
 go_enter Tryz.func70, Tryz.ntmps70
 have C1 : Hid (Calls Tryz.prog 67 #[.slice za1 x.e.length ya1, .func (.func 68) #[] #[]] W0 fun e w' => CpP rStp 3 32 x.e W0 e w') := each_stp f_step K W0 _ _ (ListIs.later mStp HL1.out HK.out HT0.out.2.2) (fun b hb => Nat.lt_of_lt_of_le (HK.out b hb) HT0.out.2.2.size)
 have c1 := HT0.out.cell (k := 1) (v := .slice za1 x.e.length ya1) rfl
 go_wp2_with fail
 refine C1.out.mono ?_
 rintro e w1 ⟨p1, r1, rfl, hl1, hb1⟩
 have T1' : Two 142 [.int .u8 (x.g : Int), .slice za1 x.e.length ya1] w w1 := HT0.out.call hb1
 clear c1 C1
 obtain ⟨V1, hV1, f1, t1, s1, k1⟩ := T1'.put (k := 1) (by simp) (.slice p1 x.e.length r1)
 have d1 := T1'.cell (k := 1) (v := .slice za1 x.e.length ya1) rfl
 have T1 : Hid (Two 142 [.int .u8 (x.g : Int), .slice p1 x.e.length r1] w V1) := t1
 have L1 : Hid (ListIs rStp 3 32 (From (w.heap.size + 2) V1) V1 (.slice p1 x.e.length r1) x.e) := (hl1.less mStp HT0.out.lt).kept mStp k1
 clear hb1 hl1 T1' t1 s1 k1
 obtain ⟨hra, hth, W5, hW5, hld, hb5, s5, k5⟩ := T1.out.ret Tryz.underlying142 rfl sz_item
 have HRA : Hid (V1.rangeAt w.heap.size 0 [.int .u8 (x.g : Int), .slice p1 x.e.length r1]) := hra
 have HTH : Hid (V1.there (w.heap.size + 1) 0 2) := hth
 have HW5 : Hid (V1.setCells (w.heap.size + 1) 0 (#[.int .u8 (x.g : Int), .slice p1 x.e.length r1] : Array Value).toList = W5) := hW5
 have HON : Hid ((#[.int .u8 (x.g : Int), .slice p1 x.e.length r1] : Array Value).all (·.oneCell') = true) := by show _ = _; simp [Value.oneCell']
 have HLD : Hid ((loadVar 142 ⟨w.heap.size + 1, 0, none⟩).run Tryz.prog W5 = .ok (.agg #[.int .u8 (x.g : Int), .slice p1 x.e.length r1]) W5) := hld
 have HBF : Hid (Below w.heap.size w W5) := hb5
 have M0 := hid ((L1.out.kept mStp k5).less mStp (C := w.heap.size) (by omega))
 clear hra hth hW5 hld hb5 s5 k5
 go_wp2_with (first | (refine wpList_load_mid rfl 142 _ rfl w.heap.size 0 rfl _ _ HRA.out Tryz.underlying142 rfl sz_item ?_) | (refine wpList_store_mid rfl 142 _ _ rfl (w.heap.size + 1) 0 #[.int .u8 (x.g : Int), .slice p1 x.e.length r1] rfl rfl HTH.out sz_item HON.out ?_; rw [HW5.out]))
 refine bodyPost_ret (v := .agg #[.int .u8 (x.g : Int), .slice p1 x.e.length r1]) (by simp only [results, Tryz.results70]; simp [asAddr, Act.put, HLD.out]) rfl ?_
 have hq := HQ.out
 exact ⟨[.int .u8 (x.g : Int), .slice p1 x.e.length r1], rfl, ⟨_, rfl, hq, M0.out⟩, HBF.out⟩
end Go.Proofs.YtajomnfeicfdlaaGreatDoor
/- New memory: sources, tables, files, claims. -/
namespace Go.Proofs.YtajomnfeicfdlaaGreatDoor
open Go.Shelf Go.RowKit Go.Lib
set_option linter.unusedVariables false
set_option linter.unusedSimpArgs false
attribute [local go_sem ↓] Go.wp_at_zero Go.wp_at_succ
theorem sz_source : (Tryz.prog.info? 58).map (·.size) = some 6 := by kernel_rfl
set_option maxRecDepth 100000 in
set_option maxHeartbeats 4000000 in
theorem f_source : FreshC rSr 76 := by
 intro K w cs x h hK
 obtain ⟨v1, rfl, q1, q2, q3, q4, n1⟩ := h
 have HL1 : Hid (ListIs rInt 1 8 K w v1 x.f) := n1
 obtain ⟨za1, ya1, rfl, nn1, mm1⟩ := id n1
 show Calls Tryz.prog 76 #[.agg #[.int .u8 (x.k : Int), .string x.t, .int .u64 (x.v.b : Int), .int .u64 (x.v.l : Int), .int .i64 x.s, .slice za1 x.f.length ya1]] w _
 have HK : Hid (∀ b, K b → b < w.heap.size) := hK
 have HQ : Hid (x.k < 256 ∧ small x.t ∧ okV x.v ∧ I64 x.s) := ⟨q1, q2, q3, q4⟩
 obtain ⟨W0, hW0, t0, hs0⟩ := Two.start w 58 #[.int .u8 (x.k : Int), .string x.t, .int .u64 (x.v.b : Int), .int .u64 (x.v.l : Int), .int .i64 x.s, .slice za1 x.f.length ya1] #[.int .u8 0, .string ⟨#[]⟩, .int .u64 0, .int .u64 0, .int .i64 0, .slice none 0 0] rfl
 have HT0 : Hid (Two 58 [.int .u8 (x.k : Int), .string x.t, .int .u64 (x.v.b : Int), .int .u64 (x.v.l : Int), .int .i64 x.s, .slice za1 x.f.length ya1] w W0) := t0
 clear t0 hK nn1 mm1 n1 q1 q2 q3 q4
 go_enter Tryz.func76, Tryz.ntmps76
 have C1 := hid (clone_any x.t W0 (by have := HQ.out.2.1; unfold small at this; omega))
 have c1 := HT0.out.cell (k := 1) (v := .string x.t) rfl
 go_wp2_with fail
 refine C1.out.mono ?_
 rintro e w1 ⟨rfl, hb1⟩
 have T1 : Hid (Two 58 [.int .u8 (x.k : Int), .string x.t, .int .u64 (x.v.b : Int), .int .u64 (x.v.l : Int), .int .i64 x.s, .slice za1 x.f.length ya1] w w1) := HT0.out.call hb1
 clear c1 C1
 have d1 := T1.out.cell (k := 1) (v := .string x.t) rfl
 have f1 := frozen_zero T1.out.1 1
 have e1 : w1.setCell ⟨w.heap.size, 1, none⟩ (.string x.t) = w1 := setCell_self T1.out.1 rfl
 clear hb1
 have C2 : Hid (Calls Tryz.prog 47 #[.slice za1 x.f.length ya1] w1 fun e w' => CpP rInt 1 8 x.f w1 e w') := plain_ints K w1 _ _ (ListIs.later mInt HL1.out HK.out T1.out.2.2) (fun b hb => Nat.lt_of_lt_of_le (HK.out b hb) T1.out.2.2.size)
 have c2 := T1.out.cell (k := 5) (v := .slice za1 x.f.length ya1) rfl
 go_wp2_with fail
 refine C2.out.mono ?_
 rintro e w2 ⟨p2, r2, rfl, hl2, hb2⟩
 have T2' : Two 58 [.int .u8 (x.k : Int), .string x.t, .int .u64 (x.v.b : Int), .int .u64 (x.v.l : Int), .int .i64 x.s, .slice za1 x.f.length ya1] w w2 := T1.out.call hb2
 clear c2 C2
 obtain ⟨V2, hV2, f2, t2, s2, k2⟩ := T2'.put (k := 5) (by simp) (.slice p2 x.f.length r2)
 have d2 := T2'.cell (k := 5) (v := .slice za1 x.f.length ya1) rfl
 have T2 : Hid (Two 58 [.int .u8 (x.k : Int), .string x.t, .int .u64 (x.v.b : Int), .int .u64 (x.v.l : Int), .int .i64 x.s, .slice p2 x.f.length r2] w V2) := t2
 have L2 : Hid (ListIs rInt 1 8 (From (w.heap.size + 2) V2) V2 (.slice p2 x.f.length r2) x.f) := (hl2.less mInt T1.out.lt).kept mInt k2
 clear hb2 hl2 T2' t2 s2 k2
 obtain ⟨hra, hth, W5, hW5, hld, hb5, s5, k5⟩ := T2.out.ret Tryz.underlying58 rfl sz_source
 have HRA : Hid (V2.rangeAt w.heap.size 0 [.int .u8 (x.k : Int), .string x.t, .int .u64 (x.v.b : Int), .int .u64 (x.v.l : Int), .int .i64 x.s, .slice p2 x.f.length r2]) := hra
 have HTH : Hid (V2.there (w.heap.size + 1) 0 6) := hth
 have HW5 : Hid (V2.setCells (w.heap.size + 1) 0 (#[.int .u8 (x.k : Int), .string x.t, .int .u64 (x.v.b : Int), .int .u64 (x.v.l : Int), .int .i64 x.s, .slice p2 x.f.length r2] : Array Value).toList = W5) := hW5
 have HON : Hid ((#[.int .u8 (x.k : Int), .string x.t, .int .u64 (x.v.b : Int), .int .u64 (x.v.l : Int), .int .i64 x.s, .slice p2 x.f.length r2] : Array Value).all (·.oneCell') = true) := by show _ = _; simp [Value.oneCell']
 have HLD : Hid ((loadVar 58 ⟨w.heap.size + 1, 0, none⟩).run Tryz.prog W5 = .ok (.agg #[.int .u8 (x.k : Int), .string x.t, .int .u64 (x.v.b : Int), .int .u64 (x.v.l : Int), .int .i64 x.s, .slice p2 x.f.length r2]) W5) := hld
 have HBF : Hid (Below w.heap.size w W5) := hb5
 have M0 := hid ((L2.out.kept mInt k5).less mInt (C := w.heap.size) (by omega))
 clear hra hth hW5 hld hb5 s5 k5
 go_wp2_with (first | (refine wpList_load_mid rfl 58 _ rfl w.heap.size 0 rfl _ _ HRA.out Tryz.underlying58 rfl sz_source ?_) | (refine wpList_store_mid rfl 58 _ _ rfl (w.heap.size + 1) 0 #[.int .u8 (x.k : Int), .string x.t, .int .u64 (x.v.b : Int), .int .u64 (x.v.l : Int), .int .i64 x.s, .slice p2 x.f.length r2] rfl rfl HTH.out sz_source HON.out ?_; rw [HW5.out]))
 refine bodyPost_ret (v := .agg #[.int .u8 (x.k : Int), .string x.t, .int .u64 (x.v.b : Int), .int .u64 (x.v.l : Int), .int .i64 x.s, .slice p2 x.f.length r2]) (by simp only [results, Tryz.results76]; simp [asAddr, Act.put, HLD.out]) rfl ?_
 have hq := HQ.out
 exact ⟨[.int .u8 (x.k : Int), .string x.t, .int .u64 (x.v.b : Int), .int .u64 (x.v.l : Int), .int .i64 x.s, .slice p2 x.f.length r2], rfl, ⟨_, rfl, hq.1, hq.2.1, hq.2.2.1, hq.2.2.2, M0.out⟩, HBF.out⟩
theorem sz_table : (Tryz.prog.info? 97).map (·.size) = some 3 := by kernel_rfl
set_option maxRecDepth 100000 in
set_option maxHeartbeats 4000000 in
theorem f_table : FreshC rTbl 45 := by
 intro K w cs x h hK
 obtain ⟨v1, v2, rfl, q1, n1, n2⟩ := h
 have HL1 : Hid (ListIs rCl 2 24 K w v1 x.c) := n1
 have HL2 : Hid (ListIs rRow 1 24 K w v2 x.r) := n2
 obtain ⟨za1, ya1, rfl, nn1, mm1⟩ := id n1
 obtain ⟨za2, ya2, rfl, nn2, mm2⟩ := id n2
 show Calls Tryz.prog 45 #[.agg #[.string x.n, .slice za1 x.c.length ya1, .slice za2 x.r.length ya2]] w _
 have HK : Hid (∀ b, K b → b < w.heap.size) := hK
 have HQ : Hid (small x.n) := q1
 obtain ⟨W0, hW0, t0, hs0⟩ := Two.start w 97 #[.string x.n, .slice za1 x.c.length ya1, .slice za2 x.r.length ya2] #[.string ⟨#[]⟩, .slice none 0 0, .slice none 0 0] rfl
 have HT0 : Hid (Two 97 [.string x.n, .slice za1 x.c.length ya1, .slice za2 x.r.length ya2] w W0) := t0
 clear t0 hK nn1 mm1 n1 nn2 mm2 n2 q1
 go_enter Tryz.func45, Tryz.ntmps45
 have C1 := hid (clone_any x.n W0 (by have := HQ.out; unfold small at this; omega))
 have c1 := HT0.out.cell (k := 0) (v := .string x.n) rfl
 go_wp2_with fail
 refine C1.out.mono ?_
 rintro e w1 ⟨rfl, hb1⟩
 have T1 : Hid (Two 97 [.string x.n, .slice za1 x.c.length ya1, .slice za2 x.r.length ya2] w w1) := HT0.out.call hb1
 clear c1 C1
 have d1 := T1.out.cell (k := 0) (v := .string x.n) rfl
 have f1 := frozen_zero T1.out.1 0
 have e1 : w1.setCell ⟨w.heap.size, 0, none⟩ (.string x.n) = w1 := setCell_self T1.out.1 rfl
 clear hb1
 have C2 : Hid (Calls Tryz.prog 74 #[.slice za1 x.c.length ya1, .func (.func 75) #[] #[]] w1 fun e w' => CpP rCl 2 24 x.c w1 e w') := each_cl f_column K w1 _ _ (ListIs.later mCl HL1.out HK.out T1.out.2.2) (fun b hb => Nat.lt_of_lt_of_le (HK.out b hb) T1.out.2.2.size)
 have c2 := T1.out.cell (k := 1) (v := .slice za1 x.c.length ya1) rfl
 go_wp2_with fail
 refine C2.out.mono ?_
 rintro e w2 ⟨p2, r2, rfl, hl2, hb2⟩
 have T2' : Two 97 [.string x.n, .slice za1 x.c.length ya1, .slice za2 x.r.length ya2] w w2 := T1.out.call hb2
 clear c2 C2
 obtain ⟨V2, hV2, f2, t2, s2, k2⟩ := T2'.put (k := 1) (by simp) (.slice p2 x.c.length r2)
 have d2 := T2'.cell (k := 1) (v := .slice za1 x.c.length ya1) rfl
 have T2 : Hid (Two 97 [.string x.n, .slice p2 x.c.length r2, .slice za2 x.r.length ya2] w V2) := t2
 have L2 : Hid (ListIs rCl 2 24 (From (w.heap.size + 2) V2) V2 (.slice p2 x.c.length r2) x.c) := (hl2.less mCl T1.out.lt).kept mCl k2
 clear hb2 hl2 T2' t2 s2 k2
 have C3 : Hid (Calls Tryz.prog 48 #[.slice za2 x.r.length ya2] V2 fun e w' => CpP rRow 1 24 x.r V2 e w') := f_rows K V2 _ _ (ListIs.later mRow HL2.out HK.out T2.out.2.2) (fun b hb => Nat.lt_of_lt_of_le (HK.out b hb) T2.out.2.2.size)
 have c3 := T2.out.cell (k := 2) (v := .slice za2 x.r.length ya2) rfl
 go_wp2_with fail
 refine C3.out.mono ?_
 rintro e w3 ⟨p3, r3, rfl, hl3, hb3⟩
 have T3' : Two 97 [.string x.n, .slice p2 x.c.length r2, .slice za2 x.r.length ya2] w w3 := T2.out.call hb3
 clear c3 C3
 obtain ⟨V3, hV3, f3, t3, s3, k3⟩ := T3'.put (k := 2) (by simp) (.slice p3 x.r.length r3)
 have d3 := T3'.cell (k := 2) (v := .slice za2 x.r.length ya2) rfl
 have T3 : Hid (Two 97 [.string x.n, .slice p2 x.c.length r2, .slice p3 x.r.length r3] w V3) := t3
 have L2_3 := hid ((L2.out.grow mCl hb3).kept mCl k3)
 have L3 : Hid (ListIs rRow 1 24 (From (w.heap.size + 2) V3) V3 (.slice p3 x.r.length r3) x.r) := (hl3.less mRow T2.out.lt).kept mRow k3
 clear hb3 hl3 T3' t3 s3 k3
 obtain ⟨hra, hth, W5, hW5, hld, hb5, s5, k5⟩ := T3.out.ret Tryz.underlying97 rfl sz_table
 have HRA : Hid (V3.rangeAt w.heap.size 0 [.string x.n, .slice p2 x.c.length r2, .slice p3 x.r.length r3]) := hra
 have HTH : Hid (V3.there (w.heap.size + 1) 0 3) := hth
 have HW5 : Hid (V3.setCells (w.heap.size + 1) 0 (#[.string x.n, .slice p2 x.c.length r2, .slice p3 x.r.length r3] : Array Value).toList = W5) := hW5
 have HON : Hid ((#[.string x.n, .slice p2 x.c.length r2, .slice p3 x.r.length r3] : Array Value).all (·.oneCell') = true) := by show _ = _; simp [Value.oneCell']
 have HLD : Hid ((loadVar 97 ⟨w.heap.size + 1, 0, none⟩).run Tryz.prog W5 = .ok (.agg #[.string x.n, .slice p2 x.c.length r2, .slice p3 x.r.length r3]) W5) := hld
 have HBF : Hid (Below w.heap.size w W5) := hb5
 have M0 := hid ((L2_3.out.kept mCl k5).less mCl (C := w.heap.size) (by omega))
 have M1 := hid ((L3.out.kept mRow k5).less mRow (C := w.heap.size) (by omega))
 clear hra hth hW5 hld hb5 s5 k5
 go_wp2_with (first | (refine wpList_load_mid rfl 97 _ rfl w.heap.size 0 rfl _ _ HRA.out Tryz.underlying97 rfl sz_table ?_) | (refine wpList_store_mid rfl 97 _ _ rfl (w.heap.size + 1) 0 #[.string x.n, .slice p2 x.c.length r2, .slice p3 x.r.length r3] rfl rfl HTH.out sz_table HON.out ?_; rw [HW5.out]))
 refine bodyPost_ret (v := .agg #[.string x.n, .slice p2 x.c.length r2, .slice p3 x.r.length r3]) (by simp only [results, Tryz.results45]; simp [asAddr, Act.put, HLD.out]) rfl ?_
 have hq := HQ.out
 exact ⟨[.string x.n, .slice p2 x.c.length r2, .slice p3 x.r.length r3], rfl, ⟨_, _, rfl, hq, M0.out, M1.out⟩, HBF.out⟩
theorem sz_Claim : (Tryz.prog.info? 160).map (·.size) = some 5 := by kernel_rfl
set_option maxRecDepth 100000 in
set_option maxHeartbeats 4000000 in
theorem f_Claim : FreshC rClm 80 := by
 intro K w cs x h hK
 obtain ⟨v1, v2, rfl, q1, n1, q2, n2⟩ := h
 have HL1 : Hid (ListIs rCl 2 24 K w v1 x.c) := n1
 have HL2 : Hid (ListIs rInts 1 24 K w v2 x.o) := n2
 obtain ⟨za1, ya1, rfl, nn1, mm1⟩ := id n1
 obtain ⟨za2, ya2, rfl, nn2, mm2⟩ := id n2
 show Calls Tryz.prog 80 #[.agg #[.string x.t, .slice za1 x.c.length ya1, .int .u64 (x.v.b : Int), .int .u64 (x.v.l : Int), .slice za2 x.o.length ya2]] w _
 have HK : Hid (∀ b, K b → b < w.heap.size) := hK
 have HQ : Hid (small x.t ∧ okV x.v) := ⟨q1, q2⟩
 obtain ⟨W0, hW0, t0, hs0⟩ := Two.start w 160 #[.string x.t, .slice za1 x.c.length ya1, .int .u64 (x.v.b : Int), .int .u64 (x.v.l : Int), .slice za2 x.o.length ya2] #[.string ⟨#[]⟩, .slice none 0 0, .int .u64 0, .int .u64 0, .slice none 0 0] rfl
 have HT0 : Hid (Two 160 [.string x.t, .slice za1 x.c.length ya1, .int .u64 (x.v.b : Int), .int .u64 (x.v.l : Int), .slice za2 x.o.length ya2] w W0) := t0
 clear t0 hK nn1 mm1 n1 nn2 mm2 n2 q1 q2
 go_enter Tryz.func80, Tryz.ntmps80
 have C1 := hid (clone_any x.t W0 (by have := HQ.out.1; unfold small at this; omega))
 have c1 := HT0.out.cell (k := 0) (v := .string x.t) rfl
 go_wp2_with fail
 refine C1.out.mono ?_
 rintro e w1 ⟨rfl, hb1⟩
 have T1 : Hid (Two 160 [.string x.t, .slice za1 x.c.length ya1, .int .u64 (x.v.b : Int), .int .u64 (x.v.l : Int), .slice za2 x.o.length ya2] w w1) := HT0.out.call hb1
 clear c1 C1
 have d1 := T1.out.cell (k := 0) (v := .string x.t) rfl
 have f1 := frozen_zero T1.out.1 0
 have e1 : w1.setCell ⟨w.heap.size, 0, none⟩ (.string x.t) = w1 := setCell_self T1.out.1 rfl
 clear hb1
 have C2 : Hid (Calls Tryz.prog 74 #[.slice za1 x.c.length ya1, .func (.func 75) #[] #[]] w1 fun e w' => CpP rCl 2 24 x.c w1 e w') := each_cl f_column K w1 _ _ (ListIs.later mCl HL1.out HK.out T1.out.2.2) (fun b hb => Nat.lt_of_lt_of_le (HK.out b hb) T1.out.2.2.size)
 have c2 := T1.out.cell (k := 1) (v := .slice za1 x.c.length ya1) rfl
 go_wp2_with fail
 refine C2.out.mono ?_
 rintro e w2 ⟨p2, r2, rfl, hl2, hb2⟩
 have T2' : Two 160 [.string x.t, .slice za1 x.c.length ya1, .int .u64 (x.v.b : Int), .int .u64 (x.v.l : Int), .slice za2 x.o.length ya2] w w2 := T1.out.call hb2
 clear c2 C2
 obtain ⟨V2, hV2, f2, t2, s2, k2⟩ := T2'.put (k := 1) (by simp) (.slice p2 x.c.length r2)
 have d2 := T2'.cell (k := 1) (v := .slice za1 x.c.length ya1) rfl
 have T2 : Hid (Two 160 [.string x.t, .slice p2 x.c.length r2, .int .u64 (x.v.b : Int), .int .u64 (x.v.l : Int), .slice za2 x.o.length ya2] w V2) := t2
 have L2 : Hid (ListIs rCl 2 24 (From (w.heap.size + 2) V2) V2 (.slice p2 x.c.length r2) x.c) := (hl2.less mCl T1.out.lt).kept mCl k2
 clear hb2 hl2 T2' t2 s2 k2
 have C3 : Hid (Calls Tryz.prog 101 #[.slice za2 x.o.length ya2, .func (.func 47) #[] #[]] V2 fun e w' => CpP rInts 1 24 x.o V2 e w') := each_ints f_ints K V2 _ _ (ListIs.later mInts HL2.out HK.out T2.out.2.2) (fun b hb => Nat.lt_of_lt_of_le (HK.out b hb) T2.out.2.2.size)
 have c3 := T2.out.cell (k := 4) (v := .slice za2 x.o.length ya2) rfl
 go_wp2_with fail
 refine C3.out.mono ?_
 rintro e w3 ⟨p3, r3, rfl, hl3, hb3⟩
 have T3' : Two 160 [.string x.t, .slice p2 x.c.length r2, .int .u64 (x.v.b : Int), .int .u64 (x.v.l : Int), .slice za2 x.o.length ya2] w w3 := T2.out.call hb3
 clear c3 C3
 obtain ⟨V3, hV3, f3, t3, s3, k3⟩ := T3'.put (k := 4) (by simp) (.slice p3 x.o.length r3)
 have d3 := T3'.cell (k := 4) (v := .slice za2 x.o.length ya2) rfl
 have T3 : Hid (Two 160 [.string x.t, .slice p2 x.c.length r2, .int .u64 (x.v.b : Int), .int .u64 (x.v.l : Int), .slice p3 x.o.length r3] w V3) := t3
 have L2_3 := hid ((L2.out.grow mCl hb3).kept mCl k3)
 have L3 : Hid (ListIs rInts 1 24 (From (w.heap.size + 2) V3) V3 (.slice p3 x.o.length r3) x.o) := (hl3.less mInts T2.out.lt).kept mInts k3
 clear hb3 hl3 T3' t3 s3 k3
 obtain ⟨hra, hth, W5, hW5, hld, hb5, s5, k5⟩ := T3.out.ret Tryz.underlying160 rfl sz_Claim
 have HRA : Hid (V3.rangeAt w.heap.size 0 [.string x.t, .slice p2 x.c.length r2, .int .u64 (x.v.b : Int), .int .u64 (x.v.l : Int), .slice p3 x.o.length r3]) := hra
 have HTH : Hid (V3.there (w.heap.size + 1) 0 5) := hth
 have HW5 : Hid (V3.setCells (w.heap.size + 1) 0 (#[.string x.t, .slice p2 x.c.length r2, .int .u64 (x.v.b : Int), .int .u64 (x.v.l : Int), .slice p3 x.o.length r3] : Array Value).toList = W5) := hW5
 have HON : Hid ((#[.string x.t, .slice p2 x.c.length r2, .int .u64 (x.v.b : Int), .int .u64 (x.v.l : Int), .slice p3 x.o.length r3] : Array Value).all (·.oneCell') = true) := by show _ = _; simp [Value.oneCell']
 have HLD : Hid ((loadVar 160 ⟨w.heap.size + 1, 0, none⟩).run Tryz.prog W5 = .ok (.agg #[.string x.t, .slice p2 x.c.length r2, .int .u64 (x.v.b : Int), .int .u64 (x.v.l : Int), .slice p3 x.o.length r3]) W5) := hld
 have HBF : Hid (Below w.heap.size w W5) := hb5
 have M0 := hid ((L2_3.out.kept mCl k5).less mCl (C := w.heap.size) (by omega))
 have M1 := hid ((L3.out.kept mInts k5).less mInts (C := w.heap.size) (by omega))
 clear hra hth hW5 hld hb5 s5 k5
 go_wp2_with (first | (refine wpList_load_mid rfl 160 _ rfl w.heap.size 0 rfl _ _ HRA.out Tryz.underlying160 rfl sz_Claim ?_) | (refine wpList_store_mid rfl 160 _ _ rfl (w.heap.size + 1) 0 #[.string x.t, .slice p2 x.c.length r2, .int .u64 (x.v.b : Int), .int .u64 (x.v.l : Int), .slice p3 x.o.length r3] rfl rfl HTH.out sz_Claim HON.out ?_; rw [HW5.out]))
 refine bodyPost_ret (v := .agg #[.string x.t, .slice p2 x.c.length r2, .int .u64 (x.v.b : Int), .int .u64 (x.v.l : Int), .slice p3 x.o.length r3]) (by simp only [results, Tryz.results80]; simp [asAddr, Act.put, HLD.out]) rfl ?_
 have hq := HQ.out
 exact ⟨[.string x.t, .slice p2 x.c.length r2, .int .u64 (x.v.b : Int), .int .u64 (x.v.l : Int), .slice p3 x.o.length r3], rfl, ⟨_, _, rfl, hq.1, M0.out, hq.2, M1.out⟩, HBF.out⟩
/-- A file, rows and all. -/
def rFil : Rel Fl := fun K W cs x => ∃ v1 v2, cs = [.string x.t, .int .u64 (x.v.b : Int), .int .u64 (x.v.l : Int), .int .i64 x.s, v1, v2] ∧ small x.t ∧ okV x.v ∧ I64 x.s ∧ ListIs rCl 2 24 K W v1 x.c ∧ ListIs rRow 1 24 K W v2 x.r
theorem sz_file : (Tryz.prog.info? 44).map (·.size) = some 6 := by kernel_rfl
set_option maxRecDepth 100000 in
set_option maxHeartbeats 4000000 in
theorem f_file : FreshC rFil 49 := by
 intro K w cs x h hK
 obtain ⟨v1, v2, rfl, q1, q2, q3, n1, n2⟩ := h
 have HL1 : Hid (ListIs rCl 2 24 K w v1 x.c) := n1
 have HL2 : Hid (ListIs rRow 1 24 K w v2 x.r) := n2
 obtain ⟨za1, ya1, rfl, nn1, mm1⟩ := id n1
 obtain ⟨za2, ya2, rfl, nn2, mm2⟩ := id n2
 show Calls Tryz.prog 49 #[.agg #[.string x.t, .int .u64 (x.v.b : Int), .int .u64 (x.v.l : Int), .int .i64 x.s, .slice za1 x.c.length ya1, .slice za2 x.r.length ya2]] w _
 have HK : Hid (∀ b, K b → b < w.heap.size) := hK
 have HQ : Hid (small x.t ∧ okV x.v ∧ I64 x.s) := ⟨q1, q2, q3⟩
 obtain ⟨W0, hW0, t0, hs0⟩ := Two.start w 44 #[.string x.t, .int .u64 (x.v.b : Int), .int .u64 (x.v.l : Int), .int .i64 x.s, .slice za1 x.c.length ya1, .slice za2 x.r.length ya2] #[.string ⟨#[]⟩, .int .u64 0, .int .u64 0, .int .i64 0, .slice none 0 0, .slice none 0 0] rfl
 have HT0 : Hid (Two 44 [.string x.t, .int .u64 (x.v.b : Int), .int .u64 (x.v.l : Int), .int .i64 x.s, .slice za1 x.c.length ya1, .slice za2 x.r.length ya2] w W0) := t0
 clear t0 hK nn1 mm1 n1 nn2 mm2 n2 q1 q2 q3
 go_enter Tryz.func49, Tryz.ntmps49
 have C1 := hid (clone_any x.t W0 (by have := HQ.out.1; unfold small at this; omega))
 have c1 := HT0.out.cell (k := 0) (v := .string x.t) rfl
 go_wp2_with fail
 refine C1.out.mono ?_
 rintro e w1 ⟨rfl, hb1⟩
 have T1 : Hid (Two 44 [.string x.t, .int .u64 (x.v.b : Int), .int .u64 (x.v.l : Int), .int .i64 x.s, .slice za1 x.c.length ya1, .slice za2 x.r.length ya2] w w1) := HT0.out.call hb1
 clear c1 C1
 have d1 := T1.out.cell (k := 0) (v := .string x.t) rfl
 have f1 := frozen_zero T1.out.1 0
 have e1 : w1.setCell ⟨w.heap.size, 0, none⟩ (.string x.t) = w1 := setCell_self T1.out.1 rfl
 clear hb1
 have C2 : Hid (Calls Tryz.prog 74 #[.slice za1 x.c.length ya1, .func (.func 75) #[] #[]] w1 fun e w' => CpP rCl 2 24 x.c w1 e w') := each_cl f_column K w1 _ _ (ListIs.later mCl HL1.out HK.out T1.out.2.2) (fun b hb => Nat.lt_of_lt_of_le (HK.out b hb) T1.out.2.2.size)
 have c2 := T1.out.cell (k := 4) (v := .slice za1 x.c.length ya1) rfl
 go_wp2_with fail
 refine C2.out.mono ?_
 rintro e w2 ⟨p2, r2, rfl, hl2, hb2⟩
 have T2' : Two 44 [.string x.t, .int .u64 (x.v.b : Int), .int .u64 (x.v.l : Int), .int .i64 x.s, .slice za1 x.c.length ya1, .slice za2 x.r.length ya2] w w2 := T1.out.call hb2
 clear c2 C2
 obtain ⟨V2, hV2, f2, t2, s2, k2⟩ := T2'.put (k := 4) (by simp) (.slice p2 x.c.length r2)
 have d2 := T2'.cell (k := 4) (v := .slice za1 x.c.length ya1) rfl
 have T2 : Hid (Two 44 [.string x.t, .int .u64 (x.v.b : Int), .int .u64 (x.v.l : Int), .int .i64 x.s, .slice p2 x.c.length r2, .slice za2 x.r.length ya2] w V2) := t2
 have L2 : Hid (ListIs rCl 2 24 (From (w.heap.size + 2) V2) V2 (.slice p2 x.c.length r2) x.c) := (hl2.less mCl T1.out.lt).kept mCl k2
 clear hb2 hl2 T2' t2 s2 k2
 have C3 : Hid (Calls Tryz.prog 48 #[.slice za2 x.r.length ya2] V2 fun e w' => CpP rRow 1 24 x.r V2 e w') := f_rows K V2 _ _ (ListIs.later mRow HL2.out HK.out T2.out.2.2) (fun b hb => Nat.lt_of_lt_of_le (HK.out b hb) T2.out.2.2.size)
 have c3 := T2.out.cell (k := 5) (v := .slice za2 x.r.length ya2) rfl
 go_wp2_with fail
 refine C3.out.mono ?_
 rintro e w3 ⟨p3, r3, rfl, hl3, hb3⟩
 have T3' : Two 44 [.string x.t, .int .u64 (x.v.b : Int), .int .u64 (x.v.l : Int), .int .i64 x.s, .slice p2 x.c.length r2, .slice za2 x.r.length ya2] w w3 := T2.out.call hb3
 clear c3 C3
 obtain ⟨V3, hV3, f3, t3, s3, k3⟩ := T3'.put (k := 5) (by simp) (.slice p3 x.r.length r3)
 have d3 := T3'.cell (k := 5) (v := .slice za2 x.r.length ya2) rfl
 have T3 : Hid (Two 44 [.string x.t, .int .u64 (x.v.b : Int), .int .u64 (x.v.l : Int), .int .i64 x.s, .slice p2 x.c.length r2, .slice p3 x.r.length r3] w V3) := t3
 have L2_3 := hid ((L2.out.grow mCl hb3).kept mCl k3)
 have L3 : Hid (ListIs rRow 1 24 (From (w.heap.size + 2) V3) V3 (.slice p3 x.r.length r3) x.r) := (hl3.less mRow T2.out.lt).kept mRow k3
 clear hb3 hl3 T3' t3 s3 k3
 obtain ⟨hra, hth, W5, hW5, hld, hb5, s5, k5⟩ := T3.out.ret Tryz.underlying44 rfl sz_file
 have HRA : Hid (V3.rangeAt w.heap.size 0 [.string x.t, .int .u64 (x.v.b : Int), .int .u64 (x.v.l : Int), .int .i64 x.s, .slice p2 x.c.length r2, .slice p3 x.r.length r3]) := hra
 have HTH : Hid (V3.there (w.heap.size + 1) 0 6) := hth
 have HW5 : Hid (V3.setCells (w.heap.size + 1) 0 (#[.string x.t, .int .u64 (x.v.b : Int), .int .u64 (x.v.l : Int), .int .i64 x.s, .slice p2 x.c.length r2, .slice p3 x.r.length r3] : Array Value).toList = W5) := hW5
 have HON : Hid ((#[.string x.t, .int .u64 (x.v.b : Int), .int .u64 (x.v.l : Int), .int .i64 x.s, .slice p2 x.c.length r2, .slice p3 x.r.length r3] : Array Value).all (·.oneCell') = true) := by show _ = _; simp [Value.oneCell']
 have HLD : Hid ((loadVar 44 ⟨w.heap.size + 1, 0, none⟩).run Tryz.prog W5 = .ok (.agg #[.string x.t, .int .u64 (x.v.b : Int), .int .u64 (x.v.l : Int), .int .i64 x.s, .slice p2 x.c.length r2, .slice p3 x.r.length r3]) W5) := hld
 have HBF : Hid (Below w.heap.size w W5) := hb5
 have M0 := hid ((L2_3.out.kept mCl k5).less mCl (C := w.heap.size) (by omega))
 have M1 := hid ((L3.out.kept mRow k5).less mRow (C := w.heap.size) (by omega))
 clear hra hth hW5 hld hb5 s5 k5
 go_wp2_with (first | (refine wpList_load_mid rfl 44 _ rfl w.heap.size 0 rfl _ _ HRA.out Tryz.underlying44 rfl sz_file ?_) | (refine wpList_store_mid rfl 44 _ _ rfl (w.heap.size + 1) 0 #[.string x.t, .int .u64 (x.v.b : Int), .int .u64 (x.v.l : Int), .int .i64 x.s, .slice p2 x.c.length r2, .slice p3 x.r.length r3] rfl rfl HTH.out sz_file HON.out ?_; rw [HW5.out]))
 refine bodyPost_ret (v := .agg #[.string x.t, .int .u64 (x.v.b : Int), .int .u64 (x.v.l : Int), .int .i64 x.s, .slice p2 x.c.length r2, .slice p3 x.r.length r3]) (by simp only [results, Tryz.results49]; simp [asAddr, Act.put, HLD.out]) rfl ?_
 have hq := HQ.out
 exact ⟨[.string x.t, .int .u64 (x.v.b : Int), .int .u64 (x.v.l : Int), .int .i64 x.s, .slice p2 x.c.length r2, .slice p3 x.r.length r3], rfl, ⟨_, _, rfl, hq.1, hq.2.1, hq.2.2, M0.out, M1.out⟩, HBF.out⟩
theorem f_claims : FreshL rClm 5 80 50 #[] := by
 intro K w v xs h hK
 show Calls Tryz.prog 50 #[v] w _
 have C : Hid (Calls Tryz.prog 79 #[v, .func (.func 80) #[] #[]] w fun e w' => CpP rClm 5 80 xs w e w') := each_clm f_Claim K w v xs h hK
 clear h hK
 go_enter Tryz.func50, Tryz.ntmps50
 go_wp2_with fail
 refine C.out.mono ?_
 rintro e w1 ⟨p, c, rfl, hl, hb⟩
 have HF : Hid (ListIs rClm 5 80 (From w.heap.size w1) w1 (.slice p xs.length c) xs ∧ Below w.heap.size w w1) := ⟨hl, hb⟩
 clear hl hb
 go_wp2_with fail
 go_ret
 exact ⟨_, _, rfl, HF.out⟩
end Go.Proofs.YtajomnfeicfdlaaGreatDoor
