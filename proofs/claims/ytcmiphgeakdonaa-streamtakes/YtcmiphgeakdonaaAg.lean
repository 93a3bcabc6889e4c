/- Names of streams held against each other; what Acked answers. -/
import Derived.Test.YtcmiphgeakdonaaAf
namespace Go.Proofs.Ytcmiphgeakdonaa
open Go.Shelf Go.RowKit Go.Lib
set_option linter.unusedVariables false
set_option linter.unusedSimpArgs false
attribute [local go_sem ↓] Go.wp_at_zero Go.wp_at_succ
def sV (m : Strm) : Value := .agg #[.int .u64 (m.qb : Int), .int .u64 (m.qn : Int), .int .i64 m.at_, .int .i64 m.fr, .int .i64 m.tq]
/-- Whether two names are one. -/
def sameS (m n : Strm) : Bool := decide (m.qb = n.qb) && decide (m.qn = n.qn) && decide (m.at_ = n.at_) && decide (m.fr = n.fr) && decide (m.tq = n.tq)
set_option maxRecDepth 10000 in
theorem eql_strm (a b c d e a' b' c' d' e' : Int) (w : World) :
    (binOp .eql 26 (.agg #[.int .u64 a, .int .u64 b, .int .i64 c, .int .i64 d, .int .i64 e]) (.agg #[.int .u64 a', .int .u64 b', .int .i64 c', .int .i64 d', .int .i64 e'])).run Try.prog w = .ok (.bool (decide (a = a') && decide (b = b') && decide (c = c') && decide (d = d') && decide (e = e'))) w := by
  have hS : Try.prog.underlying 26 = some (.struct (Try.prog.fieldsOf 26)) := by kernel_rfl
  have hp : Try.prog.stoodInHeld 26 = false := by kernel_rfl
  have hS2 : Try.prog.underlying 24 = some (.struct (Try.prog.fieldsOf 24)) := by kernel_rfl
  have hp2 : Try.prog.stoodInHeld 24 = false := by kernel_rfl
  have u9 := Try.underlying22; have a9 := Try.isAgg22; have z9 := Try.sizeOf22
  have u3 := Try.underlying3; have a3 := Try.isAgg3; have z3 := Try.sizeOf3
  have aq := Try.isAgg24; have zq := Try.sizeOf24
  have hq : (Op.equalIn 9999 24 (.agg #[.int .u64 a, .int .u64 b]) (.agg #[.int .u64 a', .int .u64 b'])).run Try.prog w = .ok (decide (a = a') && decide (b = b')) w := by
    rw [show (9999 : Nat) = 9998 + 1 from rfl, run_equalIn_struct w 9998 24 _ _ hS2 hp2]
    simp only [Program.fieldsOf, Try.underlying24]
    clear hS2 hp2 hS hp
    by_cases h1 : a = a' <;> by_cases h2 : b = b' <;> go_simp <;> simp [h1, h2]
  clear hS2 hp2
  rw [run_eql_struct, show (10000 : Nat) = 9999 + 1 from rfl, run_equalIn_struct w 9999 26 _ _ hS hp]
  simp only [Program.fieldsOf, Try.underlying26]
  by_cases h1 : a = a' <;> by_cases h2 : b = b' <;> by_cases h3 : c = c' <;> by_cases h4 : d = d' <;> by_cases h5 : e = e' <;> simp only [h1, h2, h3, h4, h5, decide_true, decide_false, Bool.and_true, Bool.and_false, Bool.true_and, Bool.false_and] at hq ⊢ <;> go_simp <;> simp [*]
theorem put_row (V : World) (g : Nat) (z : Array Value) (t : TypeId) (hg : V.heap[g]? = some (.cells z t (0, 0))) (cl : List Value) (hl : z.size = cl.length) {d : TypeDesc} (hu : Try.prog.underlying t = some d) (hd : d.isRow = true) (hi : (Try.prog.info? t).map (·.size) = some cl.length) :
    V.there g 0 cl.toArray.size ∧ ∃ X, V.setCells g 0 cl.toArray.toList = X ∧ (loadVar t ⟨g, 0, none⟩).run Try.prog X = .ok (.agg cl.toArray) X ∧ X.heap.size = V.heap.size ∧ Kept (fun b => b ≠ g) V X := by
  have ht : V.there g 0 cl.length := fun j hj => by
    rw [Nat.zero_add]
    refine ⟨?_, frozen_zero hg j⟩
    rw [cellR hg (Array.getElem?_eq_getElem (by omega : j < z.size))]
    rfl
  obtain ⟨a1, a2, a3, a4, a5⟩ := setCells_any g cl 0 V
  rw [show cl.toArray.toList = cl by simp]
  exact ⟨by simpa using ht, _, rfl, run_loadVar_mid _ _ 0 t cl _ (World.rangeAt_setCells_same V g 0 cl ht) hu hd hi, a1, ⟨a2, a3, a4, by omega, fun b hb => a5 b hb⟩⟩
/-- One that is sent, once it is told that seq batches came. -/
def ackP (x : Ot) (s : Strm) (seq : Nat) : Ot := if (sameS s x.m && decide (seq ≤ x.b.length)) = true then ⟨x.m, x.b, seq⟩ else x
set_option maxRecDepth 100000 in
set_option maxHeartbeats 8000000 in
theorem acked_any (cs : List Value) (x : Ot) (s : Strm) (seq : Nat) (K : Nat → Prop) (w : World) (h : rOut K w cs x) (hs : okS s) (hq : seq < 18446744073709551616) (hK : ∀ b, K b → b < w.heap.size) :
    Calls Try.prog 13 #[.agg cs.toArray, .agg #[.int .u64 (s.qb : Int), .int .u64 (s.qn : Int), .int .i64 s.at_, .int .i64 s.fr, .int .i64 s.tq], .int .u64 (seq : Int)] w fun e w' => ∃ cs', e = .returned (.agg cs'.toArray) ∧ rOut (From w.heap.size w') w' cs' (ackP x s seq) ∧ Below w.heap.size w w' := by
  have hfo := f_Out K
  obtain ⟨q, c, rfl, hok, hl, hcap, hby⟩ := out_cells h
  obtain ⟨W0, hW0, hb0, hs0, g0, g1, g2⟩ := three_boxes w #[.int .u64 (x.m.qb : Int), .int .u64 (x.m.qn : Int), .int .i64 x.m.at_, .int .i64 x.m.fr, .int .i64 x.m.tq, .slice q x.b.length c, .int .u64 (x.a : Int)] #[.int .u64 (s.qb : Int), .int .u64 (s.qn : Int), .int .i64 s.at_, .int .i64 s.fr, .int .i64 s.tq] #[.int .u64 0, .int .u64 0, .int .i64 0, .int .i64 0, .int .i64 0, .slice none 0 0, .int .u64 0] 29 26 29
  have HV : Hid (∀ V, Below W0.heap.size W0 V → V.heap[w.heap.size]? = some (.cells #[.int .u64 (x.m.qb : Int), .int .u64 (x.m.qn : Int), .int .i64 x.m.at_, .int .i64 x.m.fr, .int .i64 x.m.tq, .slice q x.b.length c, .int .u64 (x.a : Int)] 29 (0, 0)) ∧ V.heap[w.heap.size + 1]? = some (.cells #[.int .u64 (s.qb : Int), .int .u64 (s.qn : Int), .int .i64 s.at_, .int .i64 s.fr, .int .i64 s.tq] 26 (0, 0)) ∧ V.heap[w.heap.size + 1 + 1]? = some (.cells #[.int .u64 0, .int .u64 0, .int .i64 0, .int .i64 0, .int .i64 0, .slice none 0 0, .int .u64 0] 29 (0, 0)) ∧ Below w.heap.size w V) := fun V hb => ⟨by rw [hb.block _ (by omega)]; exact g0, by rw [hb.block _ (by omega)]; exact g1, by rw [hb.block _ (by omega)]; exact g2, hb0.trans (hb.mono hb0.size)⟩
  have CF : Hid (Calls Try.prog 34 #[.agg #[.int .u64 (x.m.qb : Int), .int .u64 (x.m.qn : Int), .int .i64 x.m.at_, .int .i64 x.m.fr, .int .i64 x.m.tq, .slice q x.b.length c, .int .u64 (x.a : Int)]] W0 fun e w' => ∃ cs', e = .returned (asV cs') ∧ rOut (From W0.heap.size w') w' cs' x ∧ Below W0.heap.size W0 w') := hfo W0 [.int .u64 (x.m.qb : Int), .int .u64 (x.m.qn : Int), .int .i64 x.m.at_, .int .i64 x.m.fr, .int .i64 x.m.tq, .slice q x.b.length c, .int .u64 (x.a : Int)] x (mOut _ _ _ _ _ _ (fun _ h => h) (kept_of hK hb0) h) (fun b hk => Nat.lt_of_lt_of_le (hK b hk) hb0.size)
  have HOK : Hid (okS x.m ∧ x.a < 18446744073709551616) := hok
  have HQ : Hid (seq < 18446744073709551616) := hq
  have HS0 : Hid (W0.heap.size = w.heap.size + 3) := hs0
  have hn63 : x.b.length ≤ 5864062014806 := by omega
  have a0 := cell_of_row (k := 0) g0 rfl
  have a1 := cell_of_row (k := 1) g0 rfl
  have a2 := cell_of_row (k := 2) g0 rfl
  have a3 := cell_of_row (k := 3) g0 rfl
  have a4 := cell_of_row (k := 4) g0 rfl
  have a5 := cell_of_row (k := 5) g0 rfl
  have a6 := cell_of_row (k := 6) g0 rfl
  clear h hl hcap hby hb0 g0 g1 g2 hs0 hfo hK hok hs
  go_enter Try.func13, Try.ntmps13
  go_wp2_with fail
  refine CF.out.mono ?_
  rintro e w1 ⟨cs1, rfl, hr1, hb1⟩
  obtain ⟨q2, c2, rfl, _, hl2, _, _⟩ := out_cells hr1
  rw [show asV [.int .u64 (x.m.qb : Int), .int .u64 (x.m.qn : Int), .int .i64 x.m.at_, .int .i64 x.m.fr, .int .i64 x.m.tq, .slice q2 x.b.length c2, .int .u64 (x.a : Int)] = Value.agg #[.int .u64 (x.m.qb : Int), .int .u64 (x.m.qn : Int), .int .i64 x.m.at_, .int .i64 x.m.fr, .int .i64 x.m.tq, .slice q2 x.b.length c2, .int .u64 (x.a : Int)] from rfl]
  clear a0 a1 a2 a3 a4 a5 a6 CF hr1
  have HZ : Hid (∀ V, Below W0.heap.size W0 V → V.cell? ⟨w.heap.size, 0, none⟩ = some (.int .u64 (x.m.qb : Int))) := fun V hb => cell_of_row (k := 0) (HV.out V hb).1 rfl
  have EQ := eql_strm (s.qb : Int) (s.qn : Int) s.at_ s.fr s.tq (x.m.qb : Int) (x.m.qn : Int) x.m.at_ x.m.fr x.m.tq
  have hsm : (decide ((s.qb : Int) = (x.m.qb : Int)) && decide ((s.qn : Int) = (x.m.qn : Int)) && decide (s.at_ = x.m.at_) && decide (s.fr = x.m.fr) && decide (s.tq = x.m.tq)) = sameS s x.m := by
    unfold sameS
    rw [show decide ((s.qb : Int) = (x.m.qb : Int)) = decide (s.qb = x.m.qb) from decide_eq_decide.2 (by omega), show decide ((s.qn : Int) = (x.m.qn : Int)) = decide (s.qn = x.m.qn) from decide_eq_decide.2 (by omega)]
  rw [hsm] at EQ
  clear hsm
  obtain ⟨V0, hV0⟩ : ∃ V0, w1.alloc (.cells #[.int .u64 (x.m.qb : Int), .int .u64 (x.m.qn : Int), .int .i64 x.m.at_, .int .i64 x.m.fr, .int .i64 x.m.tq, .slice q2 x.b.length c2, .int .u64 (x.a : Int)] 29) = V0 := ⟨_, rfl⟩
  have hbV : Below w1.heap.size w1 V0 := by rw [← hV0]; exact (Below.refl _ _).alloc (Nat.le_refl _) _
  have hgV : V0.heap[w1.heap.size]? = some (.cells #[.int .u64 (x.m.qb : Int), .int .u64 (x.m.qn : Int), .int .i64 x.m.at_, .int .i64 x.m.fr, .int .i64 x.m.tq, .slice q2 x.b.length c2, .int .u64 (x.a : Int)] 29 (0, 0)) := by rw [← hV0]; exact heap_alloc_new w1 _
  have hB0V : Below W0.heap.size W0 V0 := hb1.trans (hbV.mono hb1.size)
  have hsV : V0.heap.size = w1.heap.size + 1 := by rw [← hV0]; simp
  have hlV : ListIs rBch 1 24 (From W0.heap.size w1) V0 (.slice q2 x.b.length c2) x.b := hl2.mono mBch (fun _ h => h) (kept_of (fun b h => h.2) hbV)
  have hW01 : W0.heap.size ≤ w1.heap.size := hb1.size
  obtain ⟨t1, t2, -, -⟩ := HV.out V0 hB0V
  have a0 := cell_of_row (k := 0) t1 rfl
  have a1 := cell_of_row (k := 1) t1 rfl
  have a2 := cell_of_row (k := 2) t1 rfl
  have a3 := cell_of_row (k := 3) t1 rfl
  have a4 := cell_of_row (k := 4) t1 rfl
  have a5 := cell_of_row (k := 5) t1 rfl
  have d0 := cell_of_row (k := 0) t2 rfl
  have d1 := cell_of_row (k := 1) t2 rfl
  have d2 := cell_of_row (k := 2) t2 rfl
  have d3 := cell_of_row (k := 3) t2 rfl
  have d4 := cell_of_row (k := 4) t2 rfl
  clear hbV hl2 hb1 t1 t2 HZ
  cases hsm : sameS s x.m with
  | false =>
    rw [hsm] at EQ
    have HP : Hid (ackP x s seq = x) := by show _ = _; unfold ackP; rw [hsm]; rfl
    clear hsm
    obtain ⟨v1, v2, v3, v4⟩ := HV.out V0 hB0V
    obtain ⟨hth, X, hX, hld, hsX, hkX⟩ := put_row V0 (w.heap.size + 1 + 1) _ 29 v3 [.int .u64 (x.m.qb : Int), .int .u64 (x.m.qn : Int), .int .i64 x.m.at_, .int .i64 x.m.fr, .int .i64 x.m.tq, .slice q2 x.b.length c2, .int .u64 (x.a : Int)] rfl Try.underlying29 rfl sz_Out
    have HTH : Hid (V0.there (w.heap.size + 1 + 1) 0 7) := hth
    have HWX : Hid (V0.setCells (w.heap.size + 1 + 1) 0 (#[.int .u64 (x.m.qb : Int), .int .u64 (x.m.qn : Int), .int .i64 x.m.at_, .int .i64 x.m.fr, .int .i64 x.m.tq, .slice q2 x.b.length c2, .int .u64 (x.a : Int)] : Array Value).toList = X) := hX
    have HLD : Hid ((loadVar 29 ⟨w.heap.size + 1 + 1, 0, none⟩).run Try.prog X = .ok (.agg #[.int .u64 (x.m.qb : Int), .int .u64 (x.m.qn : Int), .int .i64 x.m.at_, .int .i64 x.m.fr, .int .i64 x.m.tq, .slice q2 x.b.length c2, .int .u64 (x.a : Int)]) X) := hld
    have HON : Hid ((#[.int .u64 (x.m.qb : Int), .int .u64 (x.m.qn : Int), .int .i64 x.m.at_, .int .i64 x.m.fr, .int .i64 x.m.tq, .slice q2 x.b.length c2, .int .u64 (x.a : Int)] : Array Value).all (·.oneCell') = true) := by show _ = _; simp [Value.oneCell']
    have HRV : Hid (V0.rangeAt w1.heap.size 0 [.int .u64 (x.m.qb : Int), .int .u64 (x.m.qn : Int), .int .i64 x.m.at_, .int .i64 x.m.fr, .int .i64 x.m.tq, .slice q2 x.b.length c2, .int .u64 (x.a : Int)]) := fun j u hu => by rw [Nat.zero_add]; exact cell_of_row hgV (by simpa using hu)
    have HFX : Hid (Below w.heap.size w X) := ⟨hkX.os.trans v4.os, hkX.tape.trans v4.tape, hkX.output.trans v4.output, by have := v4.size; omega, fun b hb => (hkX.block b (by show b ≠ _; omega)).trans (v4.block b hb)⟩
    have HLX : Hid (ListIs rBch 1 24 (From w.heap.size X) X (.slice q2 x.b.length c2) x.b) := hlV.mono mBch (fun b h => ⟨by have := h.1; have := HS0.out; omega, by have := h.2; have := hsV; omega⟩) ⟨hkX.os, hkX.tape, hkX.output, by omega, fun b h => hkX.block b (by show b ≠ _; have := h.1; have := HS0.out; omega)⟩
    clear hgV hB0V v1 v2 v3 v4 hth hX hld hsX hkX hlV hsV
    go_wp2_with (first | (refine wpList_store_mid rfl 29 _ _ rfl (w.heap.size + 1 + 1) 0 #[.int .u64 (x.m.qb : Int), .int .u64 (x.m.qn : Int), .int .i64 x.m.at_, .int .i64 x.m.fr, .int .i64 x.m.tq, .slice q2 x.b.length c2, .int .u64 (x.a : Int)] rfl rfl HTH.out sz_Out HON.out ?_; rw [HWX.out]) | (refine wpList_load_mid rfl 29 _ rfl w1.heap.size 0 rfl _ _ HRV.out Try.underlying29 rfl sz_Out ?_))
    refine bodyPost_ret (v := .agg #[.int .u64 (x.m.qb : Int), .int .u64 (x.m.qn : Int), .int .i64 x.m.at_, .int .i64 x.m.fr, .int .i64 x.m.tq, .slice q2 x.b.length c2, .int .u64 (x.a : Int)]) (by simp only [results, Try.results13]; simp [asAddr, Act.put, HLD.out]) rfl ?_
    exact ⟨[.int .u64 (x.m.qb : Int), .int .u64 (x.m.qn : Int), .int .i64 x.m.at_, .int .i64 x.m.fr, .int .i64 x.m.tq, .slice q2 x.b.length c2, .int .u64 (x.a : Int)], rfl, by rw [HP.out]; exact ⟨_, rfl, ⟨HOK.out.1, HOK.out.2⟩, HLX.out⟩, HFX.out⟩
  | true =>
    rw [hsm] at EQ
    by_cases hle : seq ≤ x.b.length
    · have zl : (seq : Int) ≤ (x.b.length : Int) := by omega
      have HP : Hid (ackP x s seq = ⟨x.m, x.b, seq⟩) := by show _ = _; unfold ackP; rw [hsm, decide_eq_true hle]; rfl
      have c6 := cell_of_row (k := 6) hgV rfl
      have f6 := frozen_zero hgV 6
      obtain ⟨V, hV⟩ : ∃ V, V0.setCell ⟨w1.heap.size, 6, none⟩ (.int .u64 (seq : Int)) = V := ⟨_, rfl⟩
      have hgV1 : V.heap[w1.heap.size]? = some (.cells #[.int .u64 (x.m.qb : Int), .int .u64 (x.m.qn : Int), .int .i64 x.m.at_, .int .i64 x.m.fr, .int .i64 x.m.tq, .slice q2 x.b.length c2, .int .u64 (seq : Int)] 29 (0, 0)) := by rw [← hV, heap_setCell_same V0 w1.heap.size 6 _ 29 _ hgV]; rfl
      obtain ⟨p1, p2, p3, p4, p5⟩ := setCell_any V0 w1.heap.size 6 (.int .u64 (seq : Int))
      rw [hV] at p1 p2 p3 p4 p5
      have hB1 : Below W0.heap.size W0 V := ⟨p2.trans hB0V.os, p3.trans hB0V.tape, p4.trans hB0V.output, by have := hB0V.size; omega, fun b hb => (p5 b (by omega)).trans (hB0V.block b hb)⟩
      have hl1 : ListIs rBch 1 24 (From W0.heap.size w1) V (.slice q2 x.b.length c2) x.b := hlV.mono mBch (fun _ h => h) ⟨p2, p3, p4, by omega, fun b h => p5 b (by have := h.2; omega)⟩
      have hs1 : V.heap.size = w1.heap.size + 1 := by omega
      clear hgV hB0V hlV hsV p1 p2 p3 p4 p5 hsm hle
      have hgV := hgV1
      have hB0V := hB1
      have hlV := hl1
      have hsV := hs1
      clear hgV1 hB1 hl1 hs1
      obtain ⟨v1, v2, v3, v4⟩ := HV.out V hB0V
      obtain ⟨hth, X, hX, hld, hsX, hkX⟩ := put_row V (w.heap.size + 1 + 1) _ 29 v3 [.int .u64 (x.m.qb : Int), .int .u64 (x.m.qn : Int), .int .i64 x.m.at_, .int .i64 x.m.fr, .int .i64 x.m.tq, .slice q2 x.b.length c2, .int .u64 (seq : Int)] rfl Try.underlying29 rfl sz_Out
      have HTH : Hid (V.there (w.heap.size + 1 + 1) 0 7) := hth
      have HWX : Hid (V.setCells (w.heap.size + 1 + 1) 0 (#[.int .u64 (x.m.qb : Int), .int .u64 (x.m.qn : Int), .int .i64 x.m.at_, .int .i64 x.m.fr, .int .i64 x.m.tq, .slice q2 x.b.length c2, .int .u64 (seq : Int)] : Array Value).toList = X) := hX
      have HLD : Hid ((loadVar 29 ⟨w.heap.size + 1 + 1, 0, none⟩).run Try.prog X = .ok (.agg #[.int .u64 (x.m.qb : Int), .int .u64 (x.m.qn : Int), .int .i64 x.m.at_, .int .i64 x.m.fr, .int .i64 x.m.tq, .slice q2 x.b.length c2, .int .u64 (seq : Int)]) X) := hld
      have HON : Hid ((#[.int .u64 (x.m.qb : Int), .int .u64 (x.m.qn : Int), .int .i64 x.m.at_, .int .i64 x.m.fr, .int .i64 x.m.tq, .slice q2 x.b.length c2, .int .u64 (seq : Int)] : Array Value).all (·.oneCell') = true) := by show _ = _; simp [Value.oneCell']
      have HRV : Hid (V.rangeAt w1.heap.size 0 [.int .u64 (x.m.qb : Int), .int .u64 (x.m.qn : Int), .int .i64 x.m.at_, .int .i64 x.m.fr, .int .i64 x.m.tq, .slice q2 x.b.length c2, .int .u64 (seq : Int)]) := fun j u hu => by rw [Nat.zero_add]; exact cell_of_row hgV (by simpa using hu)
      have HFX : Hid (Below w.heap.size w X) := ⟨hkX.os.trans v4.os, hkX.tape.trans v4.tape, hkX.output.trans v4.output, by have := v4.size; omega, fun b hb => (hkX.block b (by show b ≠ _; omega)).trans (v4.block b hb)⟩
      have HLX : Hid (ListIs rBch 1 24 (From w.heap.size X) X (.slice q2 x.b.length c2) x.b) := hlV.mono mBch (fun b h => ⟨by have := h.1; have := HS0.out; omega, by have := h.2; have := hsV; omega⟩) ⟨hkX.os, hkX.tape, hkX.output, by omega, fun b h => hkX.block b (by show b ≠ _; have := h.1; have := HS0.out; omega)⟩
      clear hgV hB0V v1 v2 v3 v4 hth hX hld hsX hkX hlV hsV
      go_wp2_with (first | (refine wpList_store_mid rfl 29 _ _ rfl (w.heap.size + 1 + 1) 0 #[.int .u64 (x.m.qb : Int), .int .u64 (x.m.qn : Int), .int .i64 x.m.at_, .int .i64 x.m.fr, .int .i64 x.m.tq, .slice q2 x.b.length c2, .int .u64 (seq : Int)] rfl rfl HTH.out sz_Out HON.out ?_; rw [HWX.out]) | (refine wpList_load_mid rfl 29 _ rfl w1.heap.size 0 rfl _ _ HRV.out Try.underlying29 rfl sz_Out ?_))
      refine bodyPost_ret (v := .agg #[.int .u64 (x.m.qb : Int), .int .u64 (x.m.qn : Int), .int .i64 x.m.at_, .int .i64 x.m.fr, .int .i64 x.m.tq, .slice q2 x.b.length c2, .int .u64 (seq : Int)]) (by simp only [results, Try.results13]; simp [asAddr, Act.put, HLD.out]) rfl ?_
      exact ⟨[.int .u64 (x.m.qb : Int), .int .u64 (x.m.qn : Int), .int .i64 x.m.at_, .int .i64 x.m.fr, .int .i64 x.m.tq, .slice q2 x.b.length c2, .int .u64 (seq : Int)], rfl, by rw [HP.out]; exact ⟨_, rfl, ⟨HOK.out.1, HQ.out⟩, HLX.out⟩, HFX.out⟩
    · have zl : ¬ (seq : Int) ≤ (x.b.length : Int) := by omega
      have HP : Hid (ackP x s seq = x) := by show _ = _; unfold ackP; rw [hsm, decide_eq_false hle]; rfl
      clear hsm hle
      obtain ⟨v1, v2, v3, v4⟩ := HV.out V0 hB0V
      obtain ⟨hth, X, hX, hld, hsX, hkX⟩ := put_row V0 (w.heap.size + 1 + 1) _ 29 v3 [.int .u64 (x.m.qb : Int), .int .u64 (x.m.qn : Int), .int .i64 x.m.at_, .int .i64 x.m.fr, .int .i64 x.m.tq, .slice q2 x.b.length c2, .int .u64 (x.a : Int)] rfl Try.underlying29 rfl sz_Out
      have HTH : Hid (V0.there (w.heap.size + 1 + 1) 0 7) := hth
      have HWX : Hid (V0.setCells (w.heap.size + 1 + 1) 0 (#[.int .u64 (x.m.qb : Int), .int .u64 (x.m.qn : Int), .int .i64 x.m.at_, .int .i64 x.m.fr, .int .i64 x.m.tq, .slice q2 x.b.length c2, .int .u64 (x.a : Int)] : Array Value).toList = X) := hX
      have HLD : Hid ((loadVar 29 ⟨w.heap.size + 1 + 1, 0, none⟩).run Try.prog X = .ok (.agg #[.int .u64 (x.m.qb : Int), .int .u64 (x.m.qn : Int), .int .i64 x.m.at_, .int .i64 x.m.fr, .int .i64 x.m.tq, .slice q2 x.b.length c2, .int .u64 (x.a : Int)]) X) := hld
      have HON : Hid ((#[.int .u64 (x.m.qb : Int), .int .u64 (x.m.qn : Int), .int .i64 x.m.at_, .int .i64 x.m.fr, .int .i64 x.m.tq, .slice q2 x.b.length c2, .int .u64 (x.a : Int)] : Array Value).all (·.oneCell') = true) := by show _ = _; simp [Value.oneCell']
      have HRV : Hid (V0.rangeAt w1.heap.size 0 [.int .u64 (x.m.qb : Int), .int .u64 (x.m.qn : Int), .int .i64 x.m.at_, .int .i64 x.m.fr, .int .i64 x.m.tq, .slice q2 x.b.length c2, .int .u64 (x.a : Int)]) := fun j u hu => by rw [Nat.zero_add]; exact cell_of_row hgV (by simpa using hu)
      have HFX : Hid (Below w.heap.size w X) := ⟨hkX.os.trans v4.os, hkX.tape.trans v4.tape, hkX.output.trans v4.output, by have := v4.size; omega, fun b hb => (hkX.block b (by show b ≠ _; omega)).trans (v4.block b hb)⟩
      have HLX : Hid (ListIs rBch 1 24 (From w.heap.size X) X (.slice q2 x.b.length c2) x.b) := hlV.mono mBch (fun b h => ⟨by have := h.1; have := HS0.out; omega, by have := h.2; have := hsV; omega⟩) ⟨hkX.os, hkX.tape, hkX.output, by omega, fun b h => hkX.block b (by show b ≠ _; have := h.1; have := HS0.out; omega)⟩
      clear hgV hB0V v1 v2 v3 v4 hth hX hld hsX hkX hlV hsV
      go_wp2_with (first | (refine wpList_store_mid rfl 29 _ _ rfl (w.heap.size + 1 + 1) 0 #[.int .u64 (x.m.qb : Int), .int .u64 (x.m.qn : Int), .int .i64 x.m.at_, .int .i64 x.m.fr, .int .i64 x.m.tq, .slice q2 x.b.length c2, .int .u64 (x.a : Int)] rfl rfl HTH.out sz_Out HON.out ?_; rw [HWX.out]) | (refine wpList_load_mid rfl 29 _ rfl w1.heap.size 0 rfl _ _ HRV.out Try.underlying29 rfl sz_Out ?_))
      refine bodyPost_ret (v := .agg #[.int .u64 (x.m.qb : Int), .int .u64 (x.m.qn : Int), .int .i64 x.m.at_, .int .i64 x.m.fr, .int .i64 x.m.tq, .slice q2 x.b.length c2, .int .u64 (x.a : Int)]) (by simp only [results, Try.results13]; simp [asAddr, Act.put, HLD.out]) rfl ?_
      exact ⟨[.int .u64 (x.m.qb : Int), .int .u64 (x.m.qn : Int), .int .i64 x.m.at_, .int .i64 x.m.fr, .int .i64 x.m.tq, .slice q2 x.b.length c2, .int .u64 (x.a : Int)], rfl, by rw [HP.out]; exact ⟨_, rfl, ⟨HOK.out.1, HOK.out.2⟩, HLX.out⟩, HFX.out⟩
end Go.Proofs.Ytcmiphgeakdonaa
