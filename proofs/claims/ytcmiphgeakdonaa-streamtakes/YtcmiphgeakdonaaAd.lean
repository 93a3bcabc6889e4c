/- Streams that are sent and received, and their copies in new memory. -/
import Derived.Test.YtcmiphgeakdonaaAc
namespace Go.Proofs.Ytcmiphgeakdonaa
open Go.Shelf Go.RowKit Go.Lib
set_option linter.unusedVariables false
set_option linter.unusedSimpArgs false
attribute [local go_sem ↓] Go.wp_at_zero Go.wp_at_succ
theorem ListIs.grow {α : Type} {rel : Rel α} (hm : Mono rel) {size bytes B : Nat} {W W' : World} {v : Value} {xs : List α} (h : ListIs rel size bytes (From B W) W v xs) (hb : Below W.heap.size W W') : ListIs rel size bytes (From B W') W' v xs :=
  h.mono hm (fun b h => ⟨h.1, Nat.lt_of_lt_of_le h.2 hb.size⟩) (kept_of (fun b h => h.2) hb)
theorem ListIs.onw {α : Type} {rel : Rel α} (hm : Mono rel) {size bytes B : Nat} {W W' : World} {v : Value} {xs : List α} (h : ListIs rel size bytes (From B W) W v xs) (hk : Kept (From B W) W W') : ListIs rel size bytes (From B W') W' v xs :=
  h.mono hm (fun b hb => ⟨hb.1, Nat.lt_of_lt_of_le hb.2 hk.size⟩) hk
theorem rel_new {α : Type} {rel : Rel α} (hm : Mono rel) {B C : Nat} {W W' : World} {cs : List Value} {x : α} (h : rel (From B W) W cs x) (hB : C ≤ B) (hk : Kept (fun b => C ≤ b) W W') : rel (From C W') W' cs x :=
  hm _ _ _ _ _ _ (fun b hb => ⟨by have := hb.1; omega, Nat.lt_of_lt_of_le hb.2 hk.size⟩) (hk.less fun b hb => by have := hb.1; omega) h
/-- A stream's name. -/
structure Strm where
  qb : Nat
  qn : Nat
  at_ : Int
  fr : Int
  tq : Int
def okS (m : Strm) : Prop := (m.qb < 18446744073709551616 ∧ m.qn < 18446744073709551616) ∧ I64 m.at_ ∧ I64 m.fr ∧ I64 m.tq
/-- One that is sent. -/
structure Ot where
  m : Strm
  b : List (List (List Val))
  a : Nat
/-- One that is received. -/
structure In_ where
  m : Strm
  n : Nat
  h : List Bat
  r : List (List Val)
  d : Bool
def rOut : Rel Ot := fun K W cs x => ∃ v, cs = [.int .u64 (x.m.qb : Int), .int .u64 (x.m.qn : Int), .int .i64 x.m.at_, .int .i64 x.m.fr, .int .i64 x.m.tq, v, .int .u64 (x.a : Int)] ∧ (okS x.m ∧ x.a < 18446744073709551616) ∧ ListIs rBch 1 24 K W v x.b
def rIn : Rel In_ := fun K W cs x => ∃ v u, cs = [.int .u64 (x.m.qb : Int), .int .u64 (x.m.qn : Int), .int .i64 x.m.at_, .int .i64 x.m.fr, .int .i64 x.m.tq, .int .u64 (x.n : Int), v, u, .bool x.d] ∧ (okS x.m ∧ x.n < 18446744073709551616) ∧ ListIs rBat 3 40 K W v x.h ∧ ListIs rRow 1 24 K W u x.r
theorem mOut : Mono rOut := fun K K2 W W' cs x hk hW ⟨v, h1, h2, h3⟩ => ⟨v, h1, h2, h3.mono mBch hk hW⟩
theorem mIn : Mono rIn := fun K K2 W W' cs x hk hW ⟨v, u, h1, h2, h3, h4⟩ => ⟨v, u, h1, h2, h3.mono mBat hk hW, h4.mono mRow hk hW⟩
theorem f_bch : FreshC rBch 27 := by
  intro K w cs x h hK
  obtain ⟨v, rfl, hl⟩ := h
  refine (f_rows K w v x hl hK).mono ?_
  rintro e w' ⟨p, c, rfl, h1, h2⟩
  exact ⟨[.slice p x.length c], rfl, ⟨_, rfl, h1⟩, h2⟩
theorem sz_batch : (Try.prog.info? 91).map (·.size) = some 3 := by kernel_rfl
set_option maxRecDepth 100000 in
set_option maxHeartbeats 4000000 in
theorem f_batch : FreshC rBat 57 := by
  intro K w cs x h hK
  obtain ⟨v1, rfl, q1, n1⟩ := h
  have HL1 : Hid (ListIs rRow 1 24 K w v1 x.r) := n1
  obtain ⟨za1, ya1, rfl, nn1, mm1⟩ := id n1
  show Calls Try.prog 57 #[.agg #[.int .u64 (x.s : Int), .bool x.l, .slice za1 x.r.length ya1]] w _
  have HK : Hid (∀ b, K b → b < w.heap.size) := hK
  have HQ : Hid (x.s < 18446744073709551616) := q1
  obtain ⟨W0, hW0, t0, hs0⟩ := Two.start w 91 #[.int .u64 (x.s : Int), .bool x.l, .slice za1 x.r.length ya1] #[.int .u64 0, .bool false, .slice none 0 0] rfl
  have HT0 : Hid (Two 91 [.int .u64 (x.s : Int), .bool x.l, .slice za1 x.r.length ya1] w W0) := t0
  clear t0 hK nn1 mm1 n1 q1
  go_enter Try.func57, Try.ntmps57
  have C1 : Hid (Calls Try.prog 27 #[.slice za1 x.r.length ya1] W0 fun e w' => CpP rRow 1 24 x.r W0 e w') := f_rows K W0 _ _ (ListIs.later mRow HL1.out HK.out HT0.out.2.2) (fun b hb => Nat.lt_of_lt_of_le (HK.out b hb) HT0.out.2.2.size)
  have c1 := HT0.out.cell (k := 2) (v := .slice za1 x.r.length ya1) rfl
  go_wp2_with fail
  refine C1.out.mono ?_
  rintro e w1 ⟨p1, r1, rfl, hl1, hb1⟩
  have T1' : Two 91 [.int .u64 (x.s : Int), .bool x.l, .slice za1 x.r.length ya1] w w1 := HT0.out.call hb1
  clear c1 C1
  obtain ⟨V1, hV1, f1, t1, s1, k1⟩ := T1'.put (k := 2) (by simp) (.slice p1 x.r.length r1)
  have d1 := T1'.cell (k := 2) (v := .slice za1 x.r.length ya1) rfl
  have T1 : Hid (Two 91 [.int .u64 (x.s : Int), .bool x.l, .slice p1 x.r.length r1] w V1) := t1
  have L1 : Hid (ListIs rRow 1 24 (From (w.heap.size + 2) V1) V1 (.slice p1 x.r.length r1) x.r) := (hl1.less mRow HT0.out.lt).kept mRow k1
  clear hb1 hl1 T1' t1 s1 k1
  obtain ⟨hra, hth, W5, hW5, hld, hb5, s5, k5⟩ := T1.out.ret Try.underlying91 rfl sz_batch
  have HRA : Hid (V1.rangeAt w.heap.size 0 [.int .u64 (x.s : Int), .bool x.l, .slice p1 x.r.length r1]) := hra
  have HTH : Hid (V1.there (w.heap.size + 1) 0 3) := hth
  have HW5 : Hid (V1.setCells (w.heap.size + 1) 0 (#[.int .u64 (x.s : Int), .bool x.l, .slice p1 x.r.length r1] : Array Value).toList = W5) := hW5
  have HON : Hid ((#[.int .u64 (x.s : Int), .bool x.l, .slice p1 x.r.length r1] : Array Value).all (·.oneCell') = true) := by show _ = _; simp [Value.oneCell']
  have HLD : Hid ((loadVar 91 ⟨w.heap.size + 1, 0, none⟩).run Try.prog W5 = .ok (.agg #[.int .u64 (x.s : Int), .bool x.l, .slice p1 x.r.length r1]) W5) := hld
  have HBF : Hid (Below w.heap.size w W5) := hb5
  have M0 := hid ((L1.out.kept mRow k5).less mRow (C := w.heap.size) (by omega))
  clear hra hth hW5 hld hb5 s5 k5
  go_wp2_with (first | (refine wpList_load_mid rfl 91 _ rfl w.heap.size 0 rfl _ _ HRA.out Try.underlying91 rfl sz_batch ?_) | (refine wpList_store_mid rfl 91 _ _ rfl (w.heap.size + 1) 0 #[.int .u64 (x.s : Int), .bool x.l, .slice p1 x.r.length r1] rfl rfl HTH.out sz_batch HON.out ?_; rw [HW5.out]))
  refine bodyPost_ret (v := .agg #[.int .u64 (x.s : Int), .bool x.l, .slice p1 x.r.length r1]) (by simp only [results, Try.results57]; simp [asAddr, Act.put, HLD.out]) rfl ?_
  have hq := HQ.out
  exact ⟨[.int .u64 (x.s : Int), .bool x.l, .slice p1 x.r.length r1], rfl, ⟨_, rfl, hq, M0.out⟩, HBF.out⟩
theorem sz_Out : (Try.prog.info? 29).map (·.size) = some 7 := by kernel_rfl
set_option maxRecDepth 100000 in
set_option maxHeartbeats 4000000 in
theorem f_Out : FreshC rOut 34 := by
  intro K w cs x h hK
  obtain ⟨v1, rfl, q1, n1⟩ := h
  have HL1 : Hid (ListIs rBch 1 24 K w v1 x.b) := n1
  obtain ⟨za1, ya1, rfl, nn1, mm1⟩ := id n1
  show Calls Try.prog 34 #[.agg #[.int .u64 (x.m.qb : Int), .int .u64 (x.m.qn : Int), .int .i64 x.m.at_, .int .i64 x.m.fr, .int .i64 x.m.tq, .slice za1 x.b.length ya1, .int .u64 (x.a : Int)]] w _
  have HK : Hid (∀ b, K b → b < w.heap.size) := hK
  have HQ : Hid (okS x.m ∧ x.a < 18446744073709551616) := q1
  obtain ⟨W0, hW0, t0, hs0⟩ := Two.start w 29 #[.int .u64 (x.m.qb : Int), .int .u64 (x.m.qn : Int), .int .i64 x.m.at_, .int .i64 x.m.fr, .int .i64 x.m.tq, .slice za1 x.b.length ya1, .int .u64 (x.a : Int)] #[.int .u64 0, .int .u64 0, .int .i64 0, .int .i64 0, .int .i64 0, .slice none 0 0, .int .u64 0] rfl
  have HT0 : Hid (Two 29 [.int .u64 (x.m.qb : Int), .int .u64 (x.m.qn : Int), .int .i64 x.m.at_, .int .i64 x.m.fr, .int .i64 x.m.tq, .slice za1 x.b.length ya1, .int .u64 (x.a : Int)] w W0) := t0
  clear t0 hK nn1 mm1 n1 q1
  go_enter Try.func34, Try.ntmps34
  have C1 : Hid (Calls Try.prog 53 #[.slice za1 x.b.length ya1, .func (.func 27) #[] #[]] W0 fun e w' => CpP rBch 1 24 x.b W0 e w') := each_bch f_bch K W0 _ _ (ListIs.later mBch HL1.out HK.out HT0.out.2.2) (fun b hb => Nat.lt_of_lt_of_le (HK.out b hb) HT0.out.2.2.size)
  have c1 := HT0.out.cell (k := 5) (v := .slice za1 x.b.length ya1) rfl
  go_wp2_with fail
  refine C1.out.mono ?_
  rintro e w1 ⟨p1, r1, rfl, hl1, hb1⟩
  have T1' : Two 29 [.int .u64 (x.m.qb : Int), .int .u64 (x.m.qn : Int), .int .i64 x.m.at_, .int .i64 x.m.fr, .int .i64 x.m.tq, .slice za1 x.b.length ya1, .int .u64 (x.a : Int)] w w1 := HT0.out.call hb1
  clear c1 C1
  obtain ⟨V1, hV1, f1, t1, s1, k1⟩ := T1'.put (k := 5) (by simp) (.slice p1 x.b.length r1)
  have d1 := T1'.cell (k := 5) (v := .slice za1 x.b.length ya1) rfl
  have T1 : Hid (Two 29 [.int .u64 (x.m.qb : Int), .int .u64 (x.m.qn : Int), .int .i64 x.m.at_, .int .i64 x.m.fr, .int .i64 x.m.tq, .slice p1 x.b.length r1, .int .u64 (x.a : Int)] w V1) := t1
  have L1 : Hid (ListIs rBch 1 24 (From (w.heap.size + 2) V1) V1 (.slice p1 x.b.length r1) x.b) := (hl1.less mBch HT0.out.lt).kept mBch k1
  clear hb1 hl1 T1' t1 s1 k1
  obtain ⟨hra, hth, W5, hW5, hld, hb5, s5, k5⟩ := T1.out.ret Try.underlying29 rfl sz_Out
  have HRA : Hid (V1.rangeAt w.heap.size 0 [.int .u64 (x.m.qb : Int), .int .u64 (x.m.qn : Int), .int .i64 x.m.at_, .int .i64 x.m.fr, .int .i64 x.m.tq, .slice p1 x.b.length r1, .int .u64 (x.a : Int)]) := hra
  have HTH : Hid (V1.there (w.heap.size + 1) 0 7) := hth
  have HW5 : Hid (V1.setCells (w.heap.size + 1) 0 (#[.int .u64 (x.m.qb : Int), .int .u64 (x.m.qn : Int), .int .i64 x.m.at_, .int .i64 x.m.fr, .int .i64 x.m.tq, .slice p1 x.b.length r1, .int .u64 (x.a : Int)] : Array Value).toList = W5) := hW5
  have HON : Hid ((#[.int .u64 (x.m.qb : Int), .int .u64 (x.m.qn : Int), .int .i64 x.m.at_, .int .i64 x.m.fr, .int .i64 x.m.tq, .slice p1 x.b.length r1, .int .u64 (x.a : Int)] : Array Value).all (·.oneCell') = true) := by show _ = _; simp [Value.oneCell']
  have HLD : Hid ((loadVar 29 ⟨w.heap.size + 1, 0, none⟩).run Try.prog W5 = .ok (.agg #[.int .u64 (x.m.qb : Int), .int .u64 (x.m.qn : Int), .int .i64 x.m.at_, .int .i64 x.m.fr, .int .i64 x.m.tq, .slice p1 x.b.length r1, .int .u64 (x.a : Int)]) W5) := hld
  have HBF : Hid (Below w.heap.size w W5) := hb5
  have M0 := hid ((L1.out.kept mBch k5).less mBch (C := w.heap.size) (by omega))
  clear hra hth hW5 hld hb5 s5 k5
  go_wp2_with (first | (refine wpList_load_mid rfl 29 _ rfl w.heap.size 0 rfl _ _ HRA.out Try.underlying29 rfl sz_Out ?_) | (refine wpList_store_mid rfl 29 _ _ rfl (w.heap.size + 1) 0 #[.int .u64 (x.m.qb : Int), .int .u64 (x.m.qn : Int), .int .i64 x.m.at_, .int .i64 x.m.fr, .int .i64 x.m.tq, .slice p1 x.b.length r1, .int .u64 (x.a : Int)] rfl rfl HTH.out sz_Out HON.out ?_; rw [HW5.out]))
  refine bodyPost_ret (v := .agg #[.int .u64 (x.m.qb : Int), .int .u64 (x.m.qn : Int), .int .i64 x.m.at_, .int .i64 x.m.fr, .int .i64 x.m.tq, .slice p1 x.b.length r1, .int .u64 (x.a : Int)]) (by simp only [results, Try.results34]; simp [asAddr, Act.put, HLD.out]) rfl ?_
  have hq := HQ.out
  exact ⟨[.int .u64 (x.m.qb : Int), .int .u64 (x.m.qn : Int), .int .i64 x.m.at_, .int .i64 x.m.fr, .int .i64 x.m.tq, .slice p1 x.b.length r1, .int .u64 (x.a : Int)], rfl, ⟨_, rfl, hq, M0.out⟩, HBF.out⟩
theorem sz_In : (Try.prog.info? 68).map (·.size) = some 9 := by kernel_rfl
set_option maxRecDepth 100000 in
set_option maxHeartbeats 4000000 in
theorem f_In : FreshC rIn 37 := by
  intro K w cs x h hK
  obtain ⟨v1, v2, rfl, q1, n1, n2⟩ := h
  have HL1 : Hid (ListIs rBat 3 40 K w v1 x.h) := n1
  have HL2 : Hid (ListIs rRow 1 24 K w v2 x.r) := n2
  obtain ⟨za1, ya1, rfl, nn1, mm1⟩ := id n1
  obtain ⟨za2, ya2, rfl, nn2, mm2⟩ := id n2
  show Calls Try.prog 37 #[.agg #[.int .u64 (x.m.qb : Int), .int .u64 (x.m.qn : Int), .int .i64 x.m.at_, .int .i64 x.m.fr, .int .i64 x.m.tq, .int .u64 (x.n : Int), .slice za1 x.h.length ya1, .slice za2 x.r.length ya2, .bool x.d]] w _
  have HK : Hid (∀ b, K b → b < w.heap.size) := hK
  have HQ : Hid (okS x.m ∧ x.n < 18446744073709551616) := q1
  obtain ⟨W0, hW0, t0, hs0⟩ := Two.start w 68 #[.int .u64 (x.m.qb : Int), .int .u64 (x.m.qn : Int), .int .i64 x.m.at_, .int .i64 x.m.fr, .int .i64 x.m.tq, .int .u64 (x.n : Int), .slice za1 x.h.length ya1, .slice za2 x.r.length ya2, .bool x.d] #[.int .u64 0, .int .u64 0, .int .i64 0, .int .i64 0, .int .i64 0, .int .u64 0, .slice none 0 0, .slice none 0 0, .bool false] rfl
  have HT0 : Hid (Two 68 [.int .u64 (x.m.qb : Int), .int .u64 (x.m.qn : Int), .int .i64 x.m.at_, .int .i64 x.m.fr, .int .i64 x.m.tq, .int .u64 (x.n : Int), .slice za1 x.h.length ya1, .slice za2 x.r.length ya2, .bool x.d] w W0) := t0
  clear t0 hK nn1 mm1 n1 nn2 mm2 n2 q1
  go_enter Try.func37, Try.ntmps37
  have C1 : Hid (Calls Try.prog 56 #[.slice za1 x.h.length ya1, .func (.func 57) #[] #[]] W0 fun e w' => CpP rBat 3 40 x.h W0 e w') := each_bat f_batch K W0 _ _ (ListIs.later mBat HL1.out HK.out HT0.out.2.2) (fun b hb => Nat.lt_of_lt_of_le (HK.out b hb) HT0.out.2.2.size)
  have c1 := HT0.out.cell (k := 6) (v := .slice za1 x.h.length ya1) rfl
  go_wp2_with fail
  refine C1.out.mono ?_
  rintro e w1 ⟨p1, r1, rfl, hl1, hb1⟩
  have T1' : Two 68 [.int .u64 (x.m.qb : Int), .int .u64 (x.m.qn : Int), .int .i64 x.m.at_, .int .i64 x.m.fr, .int .i64 x.m.tq, .int .u64 (x.n : Int), .slice za1 x.h.length ya1, .slice za2 x.r.length ya2, .bool x.d] w w1 := HT0.out.call hb1
  clear c1 C1
  obtain ⟨V1, hV1, f1, t1, s1, k1⟩ := T1'.put (k := 6) (by simp) (.slice p1 x.h.length r1)
  have d1 := T1'.cell (k := 6) (v := .slice za1 x.h.length ya1) rfl
  have T1 : Hid (Two 68 [.int .u64 (x.m.qb : Int), .int .u64 (x.m.qn : Int), .int .i64 x.m.at_, .int .i64 x.m.fr, .int .i64 x.m.tq, .int .u64 (x.n : Int), .slice p1 x.h.length r1, .slice za2 x.r.length ya2, .bool x.d] w V1) := t1
  have L1 : Hid (ListIs rBat 3 40 (From (w.heap.size + 2) V1) V1 (.slice p1 x.h.length r1) x.h) := (hl1.less mBat HT0.out.lt).kept mBat k1
  clear hb1 hl1 T1' t1 s1 k1
  have C2 : Hid (Calls Try.prog 27 #[.slice za2 x.r.length ya2] V1 fun e w' => CpP rRow 1 24 x.r V1 e w') := f_rows K V1 _ _ (ListIs.later mRow HL2.out HK.out T1.out.2.2) (fun b hb => Nat.lt_of_lt_of_le (HK.out b hb) T1.out.2.2.size)
  have c2 := T1.out.cell (k := 7) (v := .slice za2 x.r.length ya2) rfl
  go_wp2_with fail
  refine C2.out.mono ?_
  rintro e w2 ⟨p2, r2, rfl, hl2, hb2⟩
  have T2' : Two 68 [.int .u64 (x.m.qb : Int), .int .u64 (x.m.qn : Int), .int .i64 x.m.at_, .int .i64 x.m.fr, .int .i64 x.m.tq, .int .u64 (x.n : Int), .slice p1 x.h.length r1, .slice za2 x.r.length ya2, .bool x.d] w w2 := T1.out.call hb2
  clear c2 C2
  obtain ⟨V2, hV2, f2, t2, s2, k2⟩ := T2'.put (k := 7) (by simp) (.slice p2 x.r.length r2)
  have d2 := T2'.cell (k := 7) (v := .slice za2 x.r.length ya2) rfl
  have T2 : Hid (Two 68 [.int .u64 (x.m.qb : Int), .int .u64 (x.m.qn : Int), .int .i64 x.m.at_, .int .i64 x.m.fr, .int .i64 x.m.tq, .int .u64 (x.n : Int), .slice p1 x.h.length r1, .slice p2 x.r.length r2, .bool x.d] w V2) := t2
  have L1_2 := hid ((L1.out.grow mBat hb2).kept mBat k2)
  have L2 : Hid (ListIs rRow 1 24 (From (w.heap.size + 2) V2) V2 (.slice p2 x.r.length r2) x.r) := (hl2.less mRow T1.out.lt).kept mRow k2
  clear hb2 hl2 T2' t2 s2 k2
  obtain ⟨hra, hth, W5, hW5, hld, hb5, s5, k5⟩ := T2.out.ret Try.underlying68 rfl sz_In
  have HRA : Hid (V2.rangeAt w.heap.size 0 [.int .u64 (x.m.qb : Int), .int .u64 (x.m.qn : Int), .int .i64 x.m.at_, .int .i64 x.m.fr, .int .i64 x.m.tq, .int .u64 (x.n : Int), .slice p1 x.h.length r1, .slice p2 x.r.length r2, .bool x.d]) := hra
  have HTH : Hid (V2.there (w.heap.size + 1) 0 9) := hth
  have HW5 : Hid (V2.setCells (w.heap.size + 1) 0 (#[.int .u64 (x.m.qb : Int), .int .u64 (x.m.qn : Int), .int .i64 x.m.at_, .int .i64 x.m.fr, .int .i64 x.m.tq, .int .u64 (x.n : Int), .slice p1 x.h.length r1, .slice p2 x.r.length r2, .bool x.d] : Array Value).toList = W5) := hW5
  have HON : Hid ((#[.int .u64 (x.m.qb : Int), .int .u64 (x.m.qn : Int), .int .i64 x.m.at_, .int .i64 x.m.fr, .int .i64 x.m.tq, .int .u64 (x.n : Int), .slice p1 x.h.length r1, .slice p2 x.r.length r2, .bool x.d] : Array Value).all (·.oneCell') = true) := by show _ = _; simp [Value.oneCell']
  have HLD : Hid ((loadVar 68 ⟨w.heap.size + 1, 0, none⟩).run Try.prog W5 = .ok (.agg #[.int .u64 (x.m.qb : Int), .int .u64 (x.m.qn : Int), .int .i64 x.m.at_, .int .i64 x.m.fr, .int .i64 x.m.tq, .int .u64 (x.n : Int), .slice p1 x.h.length r1, .slice p2 x.r.length r2, .bool x.d]) W5) := hld
  have HBF : Hid (Below w.heap.size w W5) := hb5
  have M0 := hid ((L1_2.out.kept mBat k5).less mBat (C := w.heap.size) (by omega))
  have M1 := hid ((L2.out.kept mRow k5).less mRow (C := w.heap.size) (by omega))
  clear hra hth hW5 hld hb5 s5 k5
  go_wp2_with (first | (refine wpList_load_mid rfl 68 _ rfl w.heap.size 0 rfl _ _ HRA.out Try.underlying68 rfl sz_In ?_) | (refine wpList_store_mid rfl 68 _ _ rfl (w.heap.size + 1) 0 #[.int .u64 (x.m.qb : Int), .int .u64 (x.m.qn : Int), .int .i64 x.m.at_, .int .i64 x.m.fr, .int .i64 x.m.tq, .int .u64 (x.n : Int), .slice p1 x.h.length r1, .slice p2 x.r.length r2, .bool x.d] rfl rfl HTH.out sz_In HON.out ?_; rw [HW5.out]))
  refine bodyPost_ret (v := .agg #[.int .u64 (x.m.qb : Int), .int .u64 (x.m.qn : Int), .int .i64 x.m.at_, .int .i64 x.m.fr, .int .i64 x.m.tq, .int .u64 (x.n : Int), .slice p1 x.h.length r1, .slice p2 x.r.length r2, .bool x.d]) (by simp only [results, Try.results37]; simp [asAddr, Act.put, HLD.out]) rfl ?_
  have hq := HQ.out
  exact ⟨[.int .u64 (x.m.qb : Int), .int .u64 (x.m.qn : Int), .int .i64 x.m.at_, .int .i64 x.m.fr, .int .i64 x.m.tq, .int .u64 (x.n : Int), .slice p1 x.h.length r1, .slice p2 x.r.length r2, .bool x.d], rfl, ⟨_, _, rfl, hq, M0.out, M1.out⟩, HBF.out⟩
end Go.Proofs.Ytcmiphgeakdonaa
