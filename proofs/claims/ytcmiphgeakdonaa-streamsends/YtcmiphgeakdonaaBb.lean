/- Streams that are sent held against each other; told that less came: the walk of StreamBack. -/
import Derived.Test.YtcmiphgeakdonaaBa
namespace Go.Proofs.Ytcmiphgeakdonaa
open Go.Shelf Go.RowKit Go.Lib Go.Sort
set_option linter.unusedVariables false
set_option linter.unusedSimpArgs false
attribute [local go_sem ↓] Go.wp_at_zero Go.wp_at_succ
set_option maxRecDepth 100000 in
set_option maxHeartbeats 4000000 in
theorem sameOut_eq (cs cs' : List Value) (x : Ot) (K L : Nat → Prop) (w : World) (h : rOut K w cs x) (h' : rOut L w cs' x) (hK : ∀ b, K b → b < w.heap.size) (hL : ∀ b, L b → b < w.heap.size) :
    Calls Try.prog 11 #[.agg cs.toArray, .agg cs'.toArray] w fun e w' => e = .returned (.bool true) ∧ Below w.heap.size w w' := by
  obtain ⟨q, c, rfl, _, hl, _, hby⟩ := out_cells h
  obtain ⟨q', c', rfl, _, hl', _, _⟩ := out_cells h'
  obtain ⟨W0, hW0, hb0, hs0, g0, g1⟩ := two_boxes2 w #[.int .u64 (x.m.qb : Int), .int .u64 (x.m.qn : Int), .int .i64 x.m.at_, .int .i64 x.m.fr, .int .i64 x.m.tq, .slice q x.b.length c, .int .u64 (x.a : Int)] #[.int .u64 (x.m.qb : Int), .int .u64 (x.m.qn : Int), .int .i64 x.m.at_, .int .i64 x.m.fr, .int .i64 x.m.tq, .slice q' x.b.length c', .int .u64 (x.a : Int)] 29 29
  have hx63 : x.b.length ≤ 5864062014806 := by omega
  have hlt0 : w.heap.size < W0.heap.size := by omega
  have hlt1 : w.heap.size + 1 < W0.heap.size := by omega
  have HV : Hid (∀ V, Below W0.heap.size W0 V → V.heap[w.heap.size]? = some (.cells #[.int .u64 (x.m.qb : Int), .int .u64 (x.m.qn : Int), .int .i64 x.m.at_, .int .i64 x.m.fr, .int .i64 x.m.tq, .slice q x.b.length c, .int .u64 (x.a : Int)] 29 (0, 0)) ∧ V.heap[w.heap.size + 1]? = some (.cells #[.int .u64 (x.m.qb : Int), .int .u64 (x.m.qn : Int), .int .i64 x.m.at_, .int .i64 x.m.fr, .int .i64 x.m.tq, .slice q' x.b.length c', .int .u64 (x.a : Int)] 29 (0, 0)) ∧ Below w.heap.size w V ∧ ListIs rBch 1 24 K V (.slice q x.b.length c) x.b ∧ ListIs rBch 1 24 L V (.slice q' x.b.length c') x.b ∧ (∀ b, K b → b < V.heap.size) ∧ (∀ b, L b → b < V.heap.size)) := fun V hb => by
    have hbw := hb0.trans (hb.mono hb0.size)
    exact ⟨(hb.block _ hlt0).trans g0, (hb.block _ hlt1).trans g1, hbw, hl.mono mBch (fun _ h => h) (kept_of hK hbw), hl'.mono mBch (fun _ h => h) (kept_of hL hbw), fun b hb' => Nat.lt_of_lt_of_le (hK b hb') hbw.size, fun b hb' => Nat.lt_of_lt_of_le (hL b hb') hbw.size⟩
  have NE := neq_strm (x.m.qb : Int) (x.m.qn : Int) x.m.at_ x.m.fr x.m.tq
  have t1 : ((x.a : Int) != (x.a : Int)) = false := by simp
  have t2 : ((x.b.length : Int) != (x.b.length : Int)) = false := by simp
  have a0 := cell_of_row (k := 0) (v := .int .u64 (x.m.qb : Int)) g0 rfl
  have a1 := cell_of_row (k := 1) (v := .int .u64 (x.m.qn : Int)) g0 rfl
  have a2 := cell_of_row (k := 2) (v := .int .i64 x.m.at_) g0 rfl
  have a3 := cell_of_row (k := 3) (v := .int .i64 x.m.fr) g0 rfl
  have a4 := cell_of_row (k := 4) (v := .int .i64 x.m.tq) g0 rfl
  have a5 := cell_of_row (k := 5) (v := .slice q x.b.length c) g0 rfl
  have a6 := cell_of_row (k := 6) (v := .int .u64 (x.a : Int)) g0 rfl
  have b0 := cell_of_row (k := 0) (v := .int .u64 (x.m.qb : Int)) g1 rfl
  have b1 := cell_of_row (k := 1) (v := .int .u64 (x.m.qn : Int)) g1 rfl
  have b2 := cell_of_row (k := 2) (v := .int .i64 x.m.at_) g1 rfl
  have b3 := cell_of_row (k := 3) (v := .int .i64 x.m.fr) g1 rfl
  have b4 := cell_of_row (k := 4) (v := .int .i64 x.m.tq) g1 rfl
  have b5 := cell_of_row (k := 5) (v := .slice q' x.b.length c') g1 rfl
  have b6 := cell_of_row (k := 6) (v := .int .u64 (x.a : Int)) g1 rfl
  clear h h' hl hl' hK hL hb0 hs0 g0 g1 hlt0 hlt1 hby
  go_enter Try.func11, Try.ntmps11
  go_wp2_with fail
  clear a0 a1 a2 a3 a4 a5 a6 b0 b1 b2 b3 b4 b5 b6 hW0 NE t1 t2
  go_loopg [30] x.b.length (fun gf s30 wx => ∃ i : Nat, s30 = .int .i64 i ∧ i ≤ x.b.length ∧ x.b.length ≤ i + gf ∧ Hid (Below W0.heap.size W0 wx))
  case atStart => exact ⟨0, rfl, by omega, by omega, Below.refl _ _⟩
  case round =>
    obtain ⟨i, rfl, hi1, hgf, HB⟩ := hrel
    by_cases hi : i < x.b.length
    · obtain ⟨g', rfl⟩ : ∃ g', gk = g' + 1 := ⟨gk - 1, by omega⟩
      have hbw := HB.out
      obtain ⟨v1, v2, v3, v4, v5, v6, v7⟩ := HV.out wr hbw
      obtain ⟨b, o, p1, d1, rfl, hKb, _, _⟩ := bch_at v4 i hi
      obtain ⟨b', o', p2, d2, rfl, hLb, _, _⟩ := bch_at v5 i hi
      obtain ⟨y, hy⟩ : ∃ y, x.b[i] = y := ⟨_, rfl⟩
      have H2 : ∀ p : LaterS wr.heap.size wr, p.w.cell? ⟨w.heap.size, 5, none⟩ = some (.slice (some ⟨b, o, none⟩) x.b.length c) ∧ p.w.cell? ⟨w.heap.size + 1, 5, none⟩ = some (.slice (some ⟨b', o', none⟩) x.b.length c') := fun p => by
        obtain ⟨u1, u2, _⟩ := HV.out p.w (hbw.trans (p.h.mono hbw.size))
        exact ⟨cell_of_row (k := 5) u1 rfl, cell_of_row (k := 5) u2 rfl⟩
      obtain ⟨bb, oo, p1, d1, e, _, w1, l1⟩ := bch_at v4 i hi
      cases e
      obtain ⟨bb, oo, p2, d2, e, _, w2, l2⟩ := bch_at v5 i hi
      cases e
      rw [hy] at w1 w2 l1 l2
      have c5 := fun p => (H2 p).1
      have e5 := fun p => (H2 p).2
      have c0 : ∀ p : LaterS wr.heap.size wr, p.w.cell? ⟨b, o + i, none⟩ = some (.slice p1 y.length d1) := fun p => (p.h.cell (p := ⟨b, _, none⟩) (v6 b hKb)).trans w1
      have e0 : ∀ p : LaterS wr.heap.size wr, p.w.cell? ⟨b', o' + i, none⟩ = some (.slice p2 y.length d2) := fun p => (p.h.cell (p := ⟨b', _, none⟩) (v7 b' hLb)).trans w2
      have cS : Hid (∀ p : LaterS wr.heap.size wr, Calls Try.prog 28 #[.slice p1 y.length d1, .slice p2 y.length d2] p.w fun e w' => e = .returned (.bool true) ∧ Below p.w.heap.size p.w w') := fun p =>
        rows_eq _ _ y K L p.w (ListIs.later mRow l1 v6 p.h) (ListIs.later mRow l2 v7 p.h) (fun b hb => Nat.lt_of_lt_of_le (v6 b hb) p.h.size) (fun b hb => Nat.lt_of_lt_of_le (v7 b hb) p.h.size)
      have z0 : (0 : Int) ≤ (i : Int) := by omega
      have z1 : (i : Int) < (x.b.length : Int) := by omega
      clear H2 v1 v2 v3 v4 v5 v6 v7 hKb hLb w1 w2 l1 l2 hy HB
      go_wp2_with fail
      have inhL := laterInh
      refine wp_region_laterS mixedOnS (by kernel_rfl) ?_
      repeat (go_big_quiet_step ((go_at_call 28; exact calls_laterS (cS.out _))))
      refine wpQuiet_nil ?_
      intro w2 hw'
      obtain ⟨⟨wq, hwq⟩, hw''⟩ := hw'
      subst hw''
      go_wp2_with fail
      go_roundg g'
      case measure => omega
      case rel => exact ⟨i + 1, by go_num, by omega, by omega, hbw.trans (hwq.mono hbw.size)⟩
    · have z1 : ¬ (i : Int) < (x.b.length : Int) := by omega
      have HB2 : Hid (Below w.heap.size w wr) := (HV.out wr HB.out).2.2.1
      clear HB
      go_wp2_with fail
      go_ret
      exact ⟨rfl, HB2.out⟩
theorem outE_ack (x : Ot) (n : Nat) (h : outE x = 0) (hn : n ≤ x.b.length) : outE ⟨x.m, x.b, n⟩ = 0 := by
  obtain ⟨h1, h2, h3, h4, h5⟩ := outE_ok h
  unfold outE
  simp only []
  rw [if_neg (by omega), if_neg (by omega), if_neg (by omega), if_neg (by rw [h4]; simp), if_pos h5]
theorem open_lenS (x : Ot) : (sendP x).length = sendN x := by unfold sendP; simp
end Go.Proofs.Ytcmiphgeakdonaa
