/- The reference: two streams that are received, held against each other. -/
import Derived.Test.YtcmiphgeakdonaaDe
namespace Go.Proofs.Ytcmiphgeakdonaa
open Go.Shelf Go.RowKit Go.Lib Go.Sort
set_option linter.unusedVariables false
set_option linter.unusedSimpArgs false
attribute [local go_sem ↓] Go.wp_at_zero Go.wp_at_succ
def BX (g : Nat) (a b : Array Value) (t : TypeId) (W : World) : Prop := W.heap[g]? = some (.cells a t (0, 0)) ∧ W.heap[g + 1]? = some (.cells b t (0, 0))
theorem two_boxesB (w : World) (a b : Array Value) (t : TypeId) : ∃ W0, (w.alloc (.cells a t)).alloc (.cells b t) = W0 ∧ Below w.heap.size w W0 ∧ W0.heap.size = w.heap.size + 2 ∧
    ∀ W, Below W0.heap.size W0 W → BX w.heap.size a b t W := by
  obtain ⟨W0, h1, h2, h3, h4, h5⟩ := two_boxes w a b t
  exact ⟨W0, h1, h2, h3, fun W hb => ⟨by rw [hb.block _ (by omega)]; exact h4, by rw [hb.block _ (by omega)]; exact h5⟩⟩
set_option maxRecDepth 100000 in
set_option maxHeartbeats 4000000 in
theorem sameIn_eq (cs cs' : List Value) (x : In_) (K L : Nat → Prop) (w : World) (h : rIn K w cs x) (h' : rIn L w cs' x) (hK : ∀ b, K b → b < w.heap.size) (hL : ∀ b, L b → b < w.heap.size) :
    Calls Try.prog 20 #[.agg cs.toArray, .agg cs'.toArray] w fun e w' => e = .returned (.bool true) ∧ Below w.heap.size w w' := by
  obtain ⟨q, c, q2, c2, rfl, _, _, hl, _, hby, hl2, _, hby2⟩ := in_cells2 h
  obtain ⟨q', c', q2', c2', rfl, _, _, hl', _, _, hl2', _, _⟩ := in_cells2 h'
  obtain ⟨W0, hW0, hb0, hs0, g0, g1⟩ := two_boxes2 w #[.int .u64 (x.m.qb : Int), .int .u64 (x.m.qn : Int), .int .i64 x.m.at_, .int .i64 x.m.fr, .int .i64 x.m.tq, .int .u64 (x.n : Int), .slice q x.h.length c, .slice q2 x.r.length c2, .bool x.d] #[.int .u64 (x.m.qb : Int), .int .u64 (x.m.qn : Int), .int .i64 x.m.at_, .int .i64 x.m.fr, .int .i64 x.m.tq, .int .u64 (x.n : Int), .slice q' x.h.length c', .slice q2' x.r.length c2', .bool x.d] 68 68
  have hx63 : x.h.length ≤ 3518437208883 := by omega
  have hlt0 : w.heap.size < W0.heap.size := by omega
  have hlt1 : w.heap.size + 1 < W0.heap.size := by omega
  have HG : Hid (∀ V, Below W0.heap.size W0 V → V.heap[w.heap.size]? = some (.cells #[.int .u64 (x.m.qb : Int), .int .u64 (x.m.qn : Int), .int .i64 x.m.at_, .int .i64 x.m.fr, .int .i64 x.m.tq, .int .u64 (x.n : Int), .slice q x.h.length c, .slice q2 x.r.length c2, .bool x.d] 68 (0, 0)) ∧ V.heap[w.heap.size + 1]? = some (.cells #[.int .u64 (x.m.qb : Int), .int .u64 (x.m.qn : Int), .int .i64 x.m.at_, .int .i64 x.m.fr, .int .i64 x.m.tq, .int .u64 (x.n : Int), .slice q' x.h.length c', .slice q2' x.r.length c2', .bool x.d] 68 (0, 0))) := fun V hb => ⟨(hb.block _ hlt0).trans g0, (hb.block _ hlt1).trans g1⟩
  have HL1 : Hid (ListIs rBat 3 40 K w (.slice q x.h.length c) x.h) := hl
  have HL2 : Hid (ListIs rBat 3 40 L w (.slice q' x.h.length c') x.h) := hl'
  have HKK : Hid (∀ b, K b → b < w.heap.size) := hK
  have HLL : Hid (∀ b, L b → b < w.heap.size) := hL
  have HB0 : Hid (Below w.heap.size w W0) := hb0
  have HS0 : Hid (W0.heap.size = w.heap.size + 2) := hs0
  have C0 : Hid (Calls Try.prog 28 #[.slice q2 x.r.length c2, .slice q2' x.r.length c2'] W0 fun e w' => e = .returned (.bool true) ∧ Below W0.heap.size W0 w') :=
    rows_eq _ _ x.r K L W0 (ListIs.later mRow hl2 hK hb0) (ListIs.later mRow hl2' hL hb0) (fun b hb => Nat.lt_of_lt_of_le (hK b hb) hb0.size) (fun b hb => Nat.lt_of_lt_of_le (hL b hb) hb0.size)
  have NE := neq_strm (x.m.qb : Int) (x.m.qn : Int) x.m.at_ x.m.fr x.m.tq
  have t1 : ((x.n : Int) != (x.n : Int)) = false := by simp
  have t2 : ((x.h.length : Int) != (x.h.length : Int)) = false := by simp
  have t3 : (x.d != x.d) = false := by simp
  have a0 := cell_of_row (k := 0) (v := .int .u64 (x.m.qb : Int)) g0 rfl
  have a1 := cell_of_row (k := 1) (v := .int .u64 (x.m.qn : Int)) g0 rfl
  have a2 := cell_of_row (k := 2) (v := .int .i64 x.m.at_) g0 rfl
  have a3 := cell_of_row (k := 3) (v := .int .i64 x.m.fr) g0 rfl
  have a4 := cell_of_row (k := 4) (v := .int .i64 x.m.tq) g0 rfl
  have a5 := cell_of_row (k := 5) (v := .int .u64 (x.n : Int)) g0 rfl
  have a6 := cell_of_row (k := 6) (v := .slice q x.h.length c) g0 rfl
  have a7 := cell_of_row (k := 7) (v := .slice q2 x.r.length c2) g0 rfl
  have a8 := cell_of_row (k := 8) (v := .bool x.d) g0 rfl
  have b0 := cell_of_row (k := 0) (v := .int .u64 (x.m.qb : Int)) g1 rfl
  have b1 := cell_of_row (k := 1) (v := .int .u64 (x.m.qn : Int)) g1 rfl
  have b2 := cell_of_row (k := 2) (v := .int .i64 x.m.at_) g1 rfl
  have b3 := cell_of_row (k := 3) (v := .int .i64 x.m.fr) g1 rfl
  have b4 := cell_of_row (k := 4) (v := .int .i64 x.m.tq) g1 rfl
  have b5 := cell_of_row (k := 5) (v := .int .u64 (x.n : Int)) g1 rfl
  have b6 := cell_of_row (k := 6) (v := .slice q' x.h.length c') g1 rfl
  have b7 := cell_of_row (k := 7) (v := .slice q2' x.r.length c2') g1 rfl
  have b8 := cell_of_row (k := 8) (v := .bool x.d) g1 rfl
  clear h h' hl hl' hl2 hl2' hK hL hb0 hs0 g0 g1 hlt0 hlt1 hby hby2
  go_enter Try.func20, Try.ntmps20
  go_wp2_with fail
  refine C0.out.mono ?_
  rintro e w1 ⟨rfl, hb1⟩
  have HB1 : Hid (Below W0.heap.size W0 w1) := hb1
  obtain ⟨g0, g1⟩ := HG.out w1 hb1
  clear a0 a1 a2 a3 a4 a5 a6 a7 a8 b0 b1 b2 b3 b4 b5 b6 b7 b8 hW0 NE t1 t3 C0
  have a6 := cell_of_row (k := 6) (v := .slice q x.h.length c) g0 rfl
  have b6 := cell_of_row (k := 6) (v := .slice q' x.h.length c') g1 rfl
  clear hb1 g0 g1
  go_wp2_with fail
  clear a6 b6 t2
  go_loopg [47] x.h.length (fun gf s47 wx => ∃ i : Nat, s47 = .int .i64 i ∧ i ≤ x.h.length ∧ x.h.length ≤ i + gf ∧ Hid (Below W0.heap.size W0 wx))
  case atStart => exact ⟨0, rfl, by omega, by omega, HB1⟩
  case round =>
    clear HB1
    obtain ⟨i, rfl, hi1, hgf, HB⟩ := hrel
    have hbw : Below w.heap.size w wr := HB0.out.trans (HB.out.mono HB0.out.size)
    by_cases hi : i < x.h.length
    · obtain ⟨g', rfl⟩ : ∃ g', gk = g' + 1 := ⟨gk - 1, by omega⟩
      obtain ⟨g0, g1⟩ := HG.out wr HB.out
      obtain ⟨b, o, p1, j1, rfl, hKb, d0, d1, d2, _, l1⟩ := bat_at (ListIs.later mBat HL1.out HKK.out hbw) i hi
      obtain ⟨b', o', p2, j2, rfl, hLb, e0, e1, e2, _, l2⟩ := bat_at (ListIs.later mBat HL2.out HLL.out hbw) i hi
      obtain ⟨y, hy⟩ : ∃ y, x.h[i] = y := ⟨_, rfl⟩
      rw [hy] at d0 d1 d2 e0 e1 e2 l1 l2
      have CR : Hid (∀ W, Below w.heap.size w W → Below wr.heap.size wr W → Calls Try.prog 28 #[.slice p1 y.r.length j1, .slice p2 y.r.length j2] W fun e w' => e = .returned (.bool true) ∧ Below W.heap.size W w') := fun W hb hb2 =>
        rows_eq _ _ y.r K L W (ListIs.later mRow l1 (fun b h => Nat.lt_of_lt_of_le (HKK.out b h) hbw.size) hb2) (ListIs.later mRow l2 (fun b h => Nat.lt_of_lt_of_le (HLL.out b h) hbw.size) hb2) (fun b h => Nat.lt_of_lt_of_le (HKK.out b h) hb.size) (fun b h => Nat.lt_of_lt_of_le (HLL.out b h) hb.size)
      have CR2 : Hid (∀ W, Below w.heap.size w W → Below wr.heap.size wr W → Calls Try.prog 28 #[.slice p2 y.r.length j2, .slice p1 y.r.length j1] W fun e w' => e = .returned (.bool true) ∧ Below W.heap.size W w') := fun W hb hb2 =>
        rows_eq _ _ y.r L K W (ListIs.later mRow l2 (fun b h => Nat.lt_of_lt_of_le (HLL.out b h) hbw.size) hb2) (ListIs.later mRow l1 (fun b h => Nat.lt_of_lt_of_le (HKK.out b h) hbw.size) hb2) (fun b h => Nat.lt_of_lt_of_le (HLL.out b h) hb.size) (fun b h => Nat.lt_of_lt_of_le (HKK.out b h) hb.size)
      have t1 : ((y.s : Int) != (y.s : Int)) = false := by simp
      have t3 : (y.l != y.l) = false := by simp
      have m0 := cell_of_row (k := 6) (v := .slice (some ⟨b, o, none⟩) x.h.length c) g0 rfl
      have m1 := cell_of_row (k := 6) (v := .slice (some ⟨b', o', none⟩) x.h.length c') g1 rfl
      have z0 : (0 : Int) ≤ (i : Int) := by omega
      have z1 : (i : Int) < (x.h.length : Int) := by omega
      have HB3 : Hid (Below W0.heap.size W0 wr) := HB.out
      have hbr : b < wr.heap.size := Nat.lt_of_lt_of_le (HKK.out _ hKb) hbw.size
      have hbr' : b' < wr.heap.size := Nat.lt_of_lt_of_le (HLL.out _ hLb) hbw.size
      have hwr : w.heap.size + 1 < wr.heap.size := Nat.lt_of_lt_of_le (by rw [HS0.out]; omega) HB.out.size
      have HBR : Hid (b < wr.heap.size ∧ b' < wr.heap.size ∧ w.heap.size < wr.heap.size ∧ w.heap.size + 1 < wr.heap.size) := ⟨hbr, hbr', by omega, hwr⟩
      clear hy HB hKb hLb hbw g0 g1 hbr hbr' hwr l1 l2 HL1 HL2
      go_wp2_with fail
      go_region_held3 (fun w' => w'.cell? ⟨w.heap.size, 6, none⟩ = some (.slice (some ⟨b, o, none⟩) x.h.length c) ∧ w'.cell? ⟨w.heap.size + 1, 6, none⟩ = some (.slice (some ⟨b', o', none⟩) x.h.length c') ∧ w'.cell? ⟨b, o + i * 3, none⟩ = some (.int .u64 (y.s : Int)) ∧ w'.cell? ⟨b, o + i * 3 + 1, none⟩ = some (.bool y.l) ∧ w'.cell? ⟨b, o + i * 3 + 2, none⟩ = some (.slice p1 y.r.length j1) ∧ w'.cell? ⟨b', o' + i * 3, none⟩ = some (.int .u64 (y.s : Int)) ∧ w'.cell? ⟨b', o' + i * 3 + 1, none⟩ = some (.bool y.l) ∧ w'.cell? ⟨b', o' + i * 3 + 2, none⟩ = some (.slice p2 y.r.length j2))
        (go_keep)
        (fail)
      · as_aux_lemma =>
          obtain ⟨V, hV, hbV, _, hgV⟩ := two_boxesB wr #[.int .u64 (y.s : Int), .bool y.l, .slice p1 y.r.length j1] #[.int .u64 (y.s : Int), .bool y.l, .slice p2 y.r.length j2] 91
          rw [hV]
          obtain ⟨V1, hV1⟩ : ∃ V1, V.drew = V1 := ⟨_, rfl⟩
          rw [hV1]
          have hbV1 : Below V.heap.size V V1 := by rw [← hV1]; exact (Below.refl _ _).drew
          obtain ⟨g0, g1⟩ := hgV V1 hbV1
          have k0 := cell_of_row (k := 0) g0 rfl
          have k1 := cell_of_row (k := 1) g0 rfl
          have k2 := cell_of_row (k := 2) g0 rfl
          have l0 := cell_of_row (k := 0) g1 rfl
          have l1 := cell_of_row (k := 1) g1 rfl
          have l2 := cell_of_row (k := 2) g1 rfl
          have HW1 : Hid (Below W0.heap.size W0 V1) := HB3.out.trans ((hbV.trans (hbV1.mono hbV.size)).mono HB3.out.size)
          have HBV : Hid (Below wr.heap.size wr V1) := hbV.trans (hbV1.mono hbV.size)
          clear hV hV1 hbV hbV1 hgV g0 g1 d0 d1 d2 e0 e1 e2 m0 m1
          go_wp2_with fail
          refine (CR.out V1 (HB0.out.trans (HW1.out.mono HB0.out.size)) HBV.out).mono ?_
          rintro e w3 ⟨rfl, hb3⟩
          have HW3 : Hid (Below W0.heap.size W0 w3) := HW1.out.trans (hb3.mono HW1.out.size)
          clear hb3
          go_wp2_with fail
          go_roundg g'
          case measure => omega
          case rel => exact ⟨i + 1, by go_num, by omega, by omega, HW3⟩
      · as_aux_lemma =>
          obtain ⟨V, hV, hbV, _, hgV⟩ := two_boxesB wr #[.int .u64 (y.s : Int), .bool y.l, .slice p2 y.r.length j2] #[.int .u64 (y.s : Int), .bool y.l, .slice p1 y.r.length j1] 91
          rw [hV]
          obtain ⟨V1, hV1⟩ : ∃ V1, V.drew = V1 := ⟨_, rfl⟩
          rw [hV1]
          have hbV1 : Below V.heap.size V V1 := by rw [← hV1]; exact (Below.refl _ _).drew
          obtain ⟨g0, g1⟩ := hgV V1 hbV1
          have k0 := cell_of_row (k := 0) g0 rfl
          have k1 := cell_of_row (k := 1) g0 rfl
          have k2 := cell_of_row (k := 2) g0 rfl
          have l0 := cell_of_row (k := 0) g1 rfl
          have l1 := cell_of_row (k := 1) g1 rfl
          have l2 := cell_of_row (k := 2) g1 rfl
          have HW1 : Hid (Below W0.heap.size W0 V1) := HB3.out.trans ((hbV.trans (hbV1.mono hbV.size)).mono HB3.out.size)
          have HBV : Hid (Below wr.heap.size wr V1) := hbV.trans (hbV1.mono hbV.size)
          clear hV hV1 hbV hbV1 hgV g0 g1 d0 d1 d2 e0 e1 e2 m0 m1
          go_wp2_with fail
          refine (CR.out V1 (HB0.out.trans (HW1.out.mono HB0.out.size)) HBV.out).mono ?_
          rintro e w3 ⟨rfl, hb3⟩
          have HW3 : Hid (Below W0.heap.size W0 w3) := HW1.out.trans (hb3.mono HW1.out.size)
          clear hb3
          go_wp2_with fail
          go_roundg g'
          case measure => omega
          case rel => exact ⟨i + 1, by go_num, by omega, by omega, HW3⟩
    · have z1 : ¬ (i : Int) < (x.h.length : Int) := by omega
      have HV0 : Hid (Below w.heap.size w wr) := hbw
      clear HB hbw
      go_wp2_with fail
      go_ret
      exact ⟨rfl, HV0.out⟩
end Go.Proofs.Ytcmiphgeakdonaa
