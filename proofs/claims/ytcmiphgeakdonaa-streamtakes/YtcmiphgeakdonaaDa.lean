/- Any message: why it is not taken. -/
import Derived.Test.YtcmiphgeakdonaaCi
namespace Go.Proofs.Ytcmiphgeakdonaa
open Go.Shelf Go.RowKit Go.Lib Go.Sort
set_option linter.unusedVariables false
set_option linter.unusedSimpArgs false
attribute [local go_sem ↓] Go.wp_at_zero Go.wp_at_succ
/-- What of any message a stream looks at. -/
structure Ms where
  k : Nat
  m : Strm
  s : Nat
  l : Bool
  r : List (List Val)
/-- The same, as of a batch. -/
def Ms.mg (y : Ms) : Mg := ⟨y.m, y.s, y.l, y.r⟩
def rMs : Rel Ms := fun K W cs y => cs.length = 47 ∧ cs[0]? = some (.int .u8 (y.k : Int)) ∧ cs[2]? = some (.int .u64 (y.m.qb : Int)) ∧ cs[3]? = some (.int .u64 (y.m.qn : Int)) ∧ cs[4]? = some (.int .i64 y.m.at_) ∧ cs[5]? = some (.int .i64 y.m.fr) ∧ cs[6]? = some (.int .i64 y.m.tq) ∧ cs[37]? = some (.int .u64 (y.s : Int)) ∧ cs[38]? = some (.bool y.l) ∧ (∃ q c, cs[39]? = some (.slice q y.r.length c) ∧ ListIs rRow 1 24 K W (.slice q y.r.length c) y.r) ∧ y.s < 18446744073709551616 ∧ okS y.m
theorem mMs : Mono rMs := fun K K2 W W' cs x hk hW ⟨h1, h2, h3, h4, h5, h6, h7, h8, h9, ⟨q, c, h10, h11⟩, h12⟩ => ⟨h1, h2, h3, h4, h5, h6, h7, h8, h9, ⟨q, c, h10, h11.mono mRow hk hW⟩, h12⟩
/-- Why any message is not taken. -/
def refG (x : In_) (y : Ms) : Int := if y.k ≠ 4 then 5 else if sameS y.m x.m = false then 5 else if 8 < y.r.length then 5 else refE x y.mg
theorem refG_zero {x : In_} {y : Ms} (h : refG x y = 0) : y.r.length ≤ 8 := by
  unfold refG at h
  repeat' split at h
  · cases h
  · cases h
  · cases h
  · omega
theorem sameS_eq {a b : Strm} (h : sameS a b = true) : a = b := by
  unfold sameS at h
  simp only [Bool.and_eq_true, decide_eq_true_eq] at h
  obtain ⟨⟨⟨⟨h1, h2⟩, h3⟩, h4⟩, h5⟩ := h
  cases a; cases b; simp_all
theorem neq_strmG (s t : Strm) (w : World) (h : sameS s t = false) :
    (binOp .neq 26 (.agg #[.int .u64 (s.qb : Int), .int .u64 (s.qn : Int), .int .i64 s.at_, .int .i64 s.fr, .int .i64 s.tq]) (.agg #[.int .u64 (t.qb : Int), .int .u64 (t.qn : Int), .int .i64 t.at_, .int .i64 t.fr, .int .i64 t.tq])).run Try.prog w = .ok (.bool true) w := by
  have e := eql_strm (s.qb : Int) (s.qn : Int) s.at_ s.fr s.tq (t.qb : Int) (t.qn : Int) t.at_ t.fr t.tq w
  have hsm : (decide ((s.qb : Int) = (t.qb : Int)) && decide ((s.qn : Int) = (t.qn : Int)) && decide (s.at_ = t.at_) && decide (s.fr = t.fr) && decide (s.tq = t.tq)) = sameS s t := by
    unfold sameS
    rw [show decide ((s.qb : Int) = (t.qb : Int)) = decide (s.qb = t.qb) from decide_eq_decide.2 (by omega), show decide ((s.qn : Int) = (t.qn : Int)) = decide (s.qn = t.qn) from decide_eq_decide.2 (by omega)]
  rw [hsm, h] at e
  simp only [binOp, Sem.run_bind] at e ⊢
  generalize (Op.equal 26 (.agg #[.int .u64 (s.qb : Int), .int .u64 (s.qn : Int), .int .i64 s.at_, .int .i64 s.fr, .int .i64 s.tq]) (.agg #[.int .u64 (t.qb : Int), .int .u64 (t.qn : Int), .int .i64 t.at_, .int .i64 t.fr, .int .i64 t.tq])).run Try.prog w = r at e ⊢
  cases r <;> simp_all
set_option maxRecDepth 100000 in
set_option maxHeartbeats 4000000 in
theorem refuse_good (cs cl : List Value) (x : In_) (y : Ms) (K : Nat → Prop) (w : World) (h : rIn K w cs x) (hn : x.n ≤ 512) (h' : rMs K w cl y) (hk4 : y.k = 4) (hm : y.m = x.m) (hr8 : y.r.length ≤ 8) (hK : ∀ b, K b → b < w.heap.size) :
    Calls Try.prog 38 #[.agg cs.toArray, .agg cl.toArray] w fun e w' => e = .returned (.int .i64 (refE x y.mg)) ∧ Below w.heap.size w w' := by
  obtain ⟨q, c, q2, c2, rfl, hok, hn64, hl, hcap, hby, hl2, hcap2, hby2⟩ := in_cells2 h
  obtain ⟨hlen, k0, k2, k3, k4, k5, k6, k37, k38, ⟨qm, cm, k39, hlm⟩, hs64, _⟩ := id h'
  rw [hk4] at k0
  rw [hm] at k2 k3 k4 k5 k6
  obtain ⟨W0, hW0, hb0, hs0, g0, g1⟩ := two_boxes2 w #[.int .u64 (x.m.qb : Int), .int .u64 (x.m.qn : Int), .int .i64 x.m.at_, .int .i64 x.m.fr, .int .i64 x.m.tq, .int .u64 (x.n : Int), .slice q x.h.length c, .slice q2 x.r.length c2, .bool x.d] cl.toArray 68 62
  have HV : Hid (∀ V, Below W0.heap.size W0 V → Below w.heap.size w V ∧ V.cell? ⟨w.heap.size + 1, 0, none⟩ = some (.int .u8 4) ∧ V.cell? ⟨w.heap.size + 1, 2, none⟩ = some (.int .u64 (x.m.qb : Int)) ∧ V.cell? ⟨w.heap.size + 1, 3, none⟩ = some (.int .u64 (x.m.qn : Int)) ∧ V.cell? ⟨w.heap.size + 1, 4, none⟩ = some (.int .i64 x.m.at_) ∧ V.cell? ⟨w.heap.size + 1, 5, none⟩ = some (.int .i64 x.m.fr) ∧ V.cell? ⟨w.heap.size + 1, 6, none⟩ = some (.int .i64 x.m.tq) ∧ V.cell? ⟨w.heap.size + 1, 37, none⟩ = some (.int .u64 (y.s : Int)) ∧ V.cell? ⟨w.heap.size + 1, 38, none⟩ = some (.bool y.l) ∧ V.cell? ⟨w.heap.size + 1, 39, none⟩ = some (.slice qm y.r.length cm) ∧ V.cell? ⟨w.heap.size, 0, none⟩ = some (.int .u64 (x.m.qb : Int)) ∧ V.cell? ⟨w.heap.size, 1, none⟩ = some (.int .u64 (x.m.qn : Int)) ∧ V.cell? ⟨w.heap.size, 2, none⟩ = some (.int .i64 x.m.at_) ∧ V.cell? ⟨w.heap.size, 3, none⟩ = some (.int .i64 x.m.fr) ∧ V.cell? ⟨w.heap.size, 4, none⟩ = some (.int .i64 x.m.tq) ∧ V.cell? ⟨w.heap.size, 5, none⟩ = some (.int .u64 (x.n : Int)) ∧ V.cell? ⟨w.heap.size, 6, none⟩ = some (.slice q x.h.length c) ∧ V.cell? ⟨w.heap.size, 8, none⟩ = some (.bool x.d)) := fun V hb =>
    ⟨hb0.trans (hb.mono hb0.size), (hb.cell (p := ⟨w.heap.size + 1, 0, none⟩) (by show w.heap.size + 1 < _; omega)).trans (cell_of_row (k := 0) g1 (by simpa using k0)), (hb.cell (p := ⟨w.heap.size + 1, 2, none⟩) (by show w.heap.size + 1 < _; omega)).trans (cell_of_row (k := 2) g1 (by simpa using k2)), (hb.cell (p := ⟨w.heap.size + 1, 3, none⟩) (by show w.heap.size + 1 < _; omega)).trans (cell_of_row (k := 3) g1 (by simpa using k3)), (hb.cell (p := ⟨w.heap.size + 1, 4, none⟩) (by show w.heap.size + 1 < _; omega)).trans (cell_of_row (k := 4) g1 (by simpa using k4)), (hb.cell (p := ⟨w.heap.size + 1, 5, none⟩) (by show w.heap.size + 1 < _; omega)).trans (cell_of_row (k := 5) g1 (by simpa using k5)), (hb.cell (p := ⟨w.heap.size + 1, 6, none⟩) (by show w.heap.size + 1 < _; omega)).trans (cell_of_row (k := 6) g1 (by simpa using k6)), (hb.cell (p := ⟨w.heap.size + 1, 37, none⟩) (by show w.heap.size + 1 < _; omega)).trans (cell_of_row (k := 37) g1 (by simpa using k37)), (hb.cell (p := ⟨w.heap.size + 1, 38, none⟩) (by show w.heap.size + 1 < _; omega)).trans (cell_of_row (k := 38) g1 (by simpa using k38)), (hb.cell (p := ⟨w.heap.size + 1, 39, none⟩) (by show w.heap.size + 1 < _; omega)).trans (cell_of_row (k := 39) g1 (by simpa using k39)), (hb.cell (p := ⟨w.heap.size, 0, none⟩) (by show w.heap.size < _; omega)).trans (cell_of_row (k := 0) g0 rfl), (hb.cell (p := ⟨w.heap.size, 1, none⟩) (by show w.heap.size < _; omega)).trans (cell_of_row (k := 1) g0 rfl), (hb.cell (p := ⟨w.heap.size, 2, none⟩) (by show w.heap.size < _; omega)).trans (cell_of_row (k := 2) g0 rfl), (hb.cell (p := ⟨w.heap.size, 3, none⟩) (by show w.heap.size < _; omega)).trans (cell_of_row (k := 3) g0 rfl), (hb.cell (p := ⟨w.heap.size, 4, none⟩) (by show w.heap.size < _; omega)).trans (cell_of_row (k := 4) g0 rfl), (hb.cell (p := ⟨w.heap.size, 5, none⟩) (by show w.heap.size < _; omega)).trans (cell_of_row (k := 5) g0 rfl), (hb.cell (p := ⟨w.heap.size, 6, none⟩) (by show w.heap.size < _; omega)).trans (cell_of_row (k := 6) g0 rfl), (hb.cell (p := ⟨w.heap.size, 8, none⟩) (by show w.heap.size < _; omega)).trans (cell_of_row (k := 8) g0 rfl)⟩
  have C1 : Hid (∀ V, Below W0.heap.size W0 V → Calls Try.prog 60 #[.slice q x.h.length c, .func (.func 58) #[] #[.pointer (some ⟨w.heap.size + 1, 0, none⟩)]] V fun e w' => e = .returned (.bool (x.h.any (isS y.s))) ∧ Below V.heap.size V w') := fun V hb =>
    contains_any 58 _ enters58 (isS y.s) _ x.h K V (hl.mono mBat (fun _ h => h) (kept_of hK (hb0.trans (hb.mono hb0.size)))) (fun b hk => Nat.lt_of_lt_of_le (hK b hk) (Nat.le_trans hb0.size hb.size))
      (fun W hW z _ p c hz => isIt_any z p c _ y.s W ((hW.cell (p := ⟨w.heap.size + 1, 37, none⟩) (by show w.heap.size + 1 < _; have := hb.size; omega)).trans ((hb.cell (p := ⟨w.heap.size + 1, 37, none⟩) (by show w.heap.size + 1 < _; omega)).trans (cell_of_row (k := 37) g1 (by simpa using k37)))) (by have := hb.size; have := hW.size; omega) hs64 hz)
  have C2 : Hid (∀ V, Below W0.heap.size W0 V → Calls Try.prog 60 #[.slice q x.h.length c, .func (.func 59) #[] #[.pointer (some ⟨w.heap.size + 1, 0, none⟩)]] V fun e w' => e = .returned (.bool (x.h.any (overS y.s y.l))) ∧ Below V.heap.size V w') := fun V hb =>
    contains_any 59 _ enters59 (overS y.s y.l) _ x.h K V (hl.mono mBat (fun _ h => h) (kept_of hK (hb0.trans (hb.mono hb0.size)))) (fun b hk => Nat.lt_of_lt_of_le (hK b hk) (Nat.le_trans hb0.size hb.size))
      (fun W hW z _ p c hz => isOver_any z p c _ y.s y.l W ((hW.cell (p := ⟨w.heap.size + 1, 37, none⟩) (by show w.heap.size + 1 < _; have := hb.size; omega)).trans ((hb.cell (p := ⟨w.heap.size + 1, 37, none⟩) (by show w.heap.size + 1 < _; omega)).trans (cell_of_row (k := 37) g1 (by simpa using k37)))) ((hW.cell (p := ⟨w.heap.size + 1, 38, none⟩) (by show w.heap.size + 1 < _; have := hb.size; omega)).trans ((hb.cell (p := ⟨w.heap.size + 1, 38, none⟩) (by show w.heap.size + 1 < _; omega)).trans (cell_of_row (k := 38) g1 (by simpa using k38)))) (by have := hb.size; have := hW.size; omega) hs64 hz)
  have NE := neq_strm (x.m.qb : Int) (x.m.qn : Int) x.m.at_ x.m.fr x.m.tq
  have y8 : ¬ (8 : Int) < (y.r.length : Int) := by omega
  have y8n : ¬ 8 < y.r.length := by omega
  have hn4 : ((x.n : Int) + 4) % 18446744073709551616 = (x.n : Int) + 4 := by omega
  obtain ⟨hB0, m0, m2, m3, m4, m5, m6, m37, m38, m39, i0, i1, i2, i3, i4, i5, i6, i8⟩ := HV.out W0 (Below.refl _ _)
  have HB0 : Hid (Below w.heap.size w W0) := hB0
  have HW0 : Hid ((w.alloc (.cells #[.int .u64 (x.m.qb : Int), .int .u64 (x.m.qn : Int), .int .i64 x.m.at_, .int .i64 x.m.fr, .int .i64 x.m.tq, .int .u64 (x.n : Int), .slice q x.h.length c, .slice q2 x.r.length c2, .bool x.d] 68)).alloc (.cells cl.toArray 62) = W0) := hW0
  have hW0' := hW0
  clear h h' hK hl hcap hby hl2 hcap2 hby2 hok hlm hb0 hs0 g0 g1 hB0 hm hk4 hW0 hlen k0 k2 k3 k4 k5 k6 k37 k38 k39
  cases hd : x.d with
  | true =>
    have HE : Hid (refE x y.mg = 15) := by show _ = _; unfold refE; rw [if_pos hd]
    simp only [hd] at *
    clear hd C1 C2 HV
    go_enter Try.func38, Try.ntmps38
    go_wp2_with fail
    go_ret
    exact ⟨by rw [HE.out]; rfl, HB0.out⟩
  | false =>
    have hdf : ¬ x.d = true := by rw [hd]; simp
    by_cases h1 : y.s < x.n
    · have z1 : (y.s : Int) < (x.n : Int) := by omega
      have HE : Hid (refE x y.mg = 15) := by show _ = _; unfold refE; rw [if_neg hdf]; exact if_pos h1
      simp only [hd] at *
      clear hd hdf C1 C2 HV
      go_enter Try.func38, Try.ntmps38
      go_wp2_with fail
      go_ret
      exact ⟨by rw [HE.out]; rfl, HB0.out⟩
    · have z1 : ¬ (y.s : Int) < (x.n : Int) := by omega
      have CC1 := hid (C1.out W0 (Below.refl _ _))
      obtain ⟨r1, hr1⟩ : ∃ r1, x.h.any (isS y.s) = r1 := ⟨_, rfl⟩
      rw [hr1] at CC1
      have HE0 : Hid (refE x y.mg = if r1 = true then 15 else if x.n + 4 ≤ y.s then 2 else if 512 ≤ y.s then 2 else if x.h.any (overS y.s y.l) = true then 17 else 0) := by show _ = _; unfold refE; rw [if_neg hdf, if_neg (show ¬ y.mg.s < x.n from h1), show x.h.any (isS y.mg.s) = r1 from hr1]; rfl
      simp only [hd] at *
      clear hd hdf C1 hr1
      go_enter Try.func38, Try.ntmps38
      go_wp2_with fail
      refine CC1.out.mono ?_
      rintro e w1 ⟨rfl, hb1⟩
      clear m0 m2 m3 m4 m5 m6 m37 m38 m39 i0 i1 i2 i3 i4 i5 i6 i8 CC1
      obtain ⟨hB1, m0, m2, m3, m4, m5, m6, m37, m38, m39, i0, i1, i2, i3, i4, i5, i6, i8⟩ := HV.out w1 hb1
      have HB1 : Hid (Below w.heap.size w w1) := hB1
      have CC2 := hid (C2.out w1 hb1)
      clear hB1 C2 HV hb1
      cases r1 with
      | true =>
        have HE : Hid (refE x y.mg = 15) := by show _ = _; rw [HE0.out]; rfl
        clear HE0 CC2
        go_wp2_with fail
        go_ret
        exact ⟨by rw [HE.out]; rfl, HB1.out⟩
      | false =>
        by_cases h2 : x.n + 4 ≤ y.s
        · have z2 : (x.n : Int) + 4 ≤ (y.s : Int) := by omega
          have HE : Hid (refE x y.mg = 2) := by show _ = _; rw [HE0.out, if_neg (by simp), if_pos h2]
          clear HE0 CC2
          go_wp2_with fail
          go_ret
          exact ⟨by rw [HE.out]; rfl, HB1.out⟩
        · have z2 : ¬ (x.n : Int) + 4 ≤ (y.s : Int) := by omega
          by_cases h3 : 512 ≤ y.s
          · have z3 : (512 : Int) ≤ (y.s : Int) := by omega
            have HE : Hid (refE x y.mg = 2) := by show _ = _; rw [HE0.out, if_neg (by simp), if_neg h2, if_pos h3]
            clear HE0 CC2
            go_wp2_with fail
            go_ret
            exact ⟨by rw [HE.out]; rfl, HB1.out⟩
          · have z3 : ¬ (512 : Int) ≤ (y.s : Int) := by omega
            obtain ⟨r2, hr2⟩ : ∃ r2, x.h.any (overS y.s y.l) = r2 := ⟨_, rfl⟩
            have HE : Hid (refE x y.mg = if r2 = true then 17 else 0) := by show _ = _; rw [HE0.out, if_neg (by simp), if_neg h2, if_neg h3, hr2]
            rw [hr2] at CC2
            clear HE0 hr2
            go_wp2_with fail
            refine CC2.out.mono ?_
            rintro e w2 ⟨rfl, hb2⟩
            have HB2 : Hid (Below w.heap.size w w2) := HB1.out.trans (hb2.mono HB1.out.size)
            clear CC2 hb2
            cases r2 with
            | true =>
              go_wp2_with fail
              go_ret
              exact ⟨by rw [HE.out]; rfl, HB2.out⟩
            | false =>
              go_wp2_with fail
              go_ret
              exact ⟨by rw [HE.out]; rfl, HB2.out⟩
set_option maxRecDepth 100000 in
set_option maxHeartbeats 4000000 in
theorem refuse_type (cs cl : List Value) (x : In_) (y : Ms) (K : Nat → Prop) (w : World) (h : rIn K w cs x) (h' : rMs K w cl y) (hb : y.k ≠ 4 ∨ sameS y.m x.m = false ∨ 8 < y.r.length) (hk : y.k < 256) :
    Calls Try.prog 38 #[.agg cs.toArray, .agg cl.toArray] w fun e w' => e = .returned (.int .i64 5) ∧ Below w.heap.size w w' := by
  obtain ⟨q, c, q2, c2, rfl, hok, hn64, hl, hcap, hby, hl2, hcap2, hby2⟩ := in_cells2 h
  obtain ⟨hlen, k0, k2, k3, k4, k5, k6, k37, k38, ⟨qm, cm, k39, hlm⟩, hs64, _⟩ := id h'
  obtain ⟨W0, hW0, hb0, hs0, g0, g1⟩ := two_boxes2 w #[.int .u64 (x.m.qb : Int), .int .u64 (x.m.qn : Int), .int .i64 x.m.at_, .int .i64 x.m.fr, .int .i64 x.m.tq, .int .u64 (x.n : Int), .slice q x.h.length c, .slice q2 x.r.length c2, .bool x.d] cl.toArray 68 62
  have m0 := cell_of_row (k := 0) (v := .int .u8 (y.k : Int)) g1 (by simpa using k0)
  have m2 := cell_of_row (k := 2) (v := .int .u64 (y.m.qb : Int)) g1 (by simpa using k2)
  have m3 := cell_of_row (k := 3) (v := .int .u64 (y.m.qn : Int)) g1 (by simpa using k3)
  have m4 := cell_of_row (k := 4) (v := .int .i64 y.m.at_) g1 (by simpa using k4)
  have m5 := cell_of_row (k := 5) (v := .int .i64 y.m.fr) g1 (by simpa using k5)
  have m6 := cell_of_row (k := 6) (v := .int .i64 y.m.tq) g1 (by simpa using k6)
  have m39 := cell_of_row (k := 39) (v := .slice qm y.r.length cm) g1 (by simpa using k39)
  have i0 := cell_of_row (k := 0) (v := .int .u64 (x.m.qb : Int)) g0 rfl
  have i1 := cell_of_row (k := 1) (v := .int .u64 (x.m.qn : Int)) g0 rfl
  have i2 := cell_of_row (k := 2) (v := .int .i64 x.m.at_) g0 rfl
  have i3 := cell_of_row (k := 3) (v := .int .i64 x.m.fr) g0 rfl
  have i4 := cell_of_row (k := 4) (v := .int .i64 x.m.tq) g0 rfl
  have HB0 : Hid (Below w.heap.size w W0) := hb0
  clear h h' hl hcap hby hl2 hcap2 hby2 hok hlm hb0 hs0 g0 g1 hlen k0 k2 k3 k4 k5 k6 k37 k38 k39 hs64
  by_cases hk4 : y.k = 4
  · have t0 : ((y.k : Int) != 4) = false := by rw [hk4]; rfl
    cases hsm : sameS y.m x.m with
    | false =>
      have NE := fun w => neq_strmG y.m x.m w hsm
      clear hb hk4 hsm
      go_enter Try.func38, Try.ntmps38
      go_wp2_with fail
      go_ret
      exact ⟨rfl, HB0.out⟩
    | true =>
      have hr : 8 < y.r.length := by rcases hb with hb | hb | hb; exact absurd hk4 hb; rw [hsm] at hb; cases hb; exact hb
      have hmm := sameS_eq hsm
      rw [hmm] at m2 m3 m4 m5 m6
      have NE := neq_strm (x.m.qb : Int) (x.m.qn : Int) x.m.at_ x.m.fr x.m.tq
      have y8 : (8 : Int) < (y.r.length : Int) := by omega
      clear hb hk4 hsm hmm
      go_enter Try.func38, Try.ntmps38
      go_wp2_with fail
      go_ret
      exact ⟨rfl, HB0.out⟩
  · have t0 : ((y.k : Int) != 4) = true := bne_iff_ne.2 (by omega)
    clear hb hk4
    go_enter Try.func38, Try.ntmps38
    go_wp2_with fail
    go_ret
    exact ⟨rfl, HB0.out⟩
theorem refuse_all (cs cl : List Value) (x : In_) (y : Ms) (K : Nat → Prop) (w : World) (h : rIn K w cs x) (hn : x.n ≤ 512) (h' : rMs K w cl y) (hk : y.k < 256) (hK : ∀ b, K b → b < w.heap.size) :
    Calls Try.prog 38 #[.agg cs.toArray, .agg cl.toArray] w fun e w' => e = .returned (.int .i64 (refG x y)) ∧ Below w.heap.size w w' := by
  by_cases hk4 : y.k = 4
  · by_cases hsm : sameS y.m x.m = true
    · by_cases hr : 8 < y.r.length
      · have e : refG x y = 5 := by unfold refG; rw [if_neg (by simpa using hk4), if_neg (by rw [hsm]; simp), if_pos hr]
        rw [e]
        exact refuse_type cs cl x y K w h h' (.inr (.inr hr)) hk
      · have e : refG x y = refE x y.mg := by unfold refG; rw [if_neg (by simpa using hk4), if_neg (by rw [hsm]; simp), if_neg hr]
        rw [e]
        exact refuse_good cs cl x y K w h hn h' hk4 (sameS_eq hsm) (by omega) hK
    · have hs2 : sameS y.m x.m = false := by simpa using hsm
      have e : refG x y = 5 := by unfold refG; rw [if_neg (by simpa using hk4), if_pos hs2]
      rw [e]
      exact refuse_type cs cl x y K w h h' (.inr (.inl hs2)) hk
  · have e : refG x y = 5 := by unfold refG; rw [if_pos hk4]
    rw [e]
    exact refuse_type cs cl x y K w h h' (.inl hk4) hk
end Go.Proofs.Ytcmiphgeakdonaa
