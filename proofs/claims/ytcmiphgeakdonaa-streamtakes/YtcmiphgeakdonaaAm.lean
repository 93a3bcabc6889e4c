/- Batches that come: what refuse answers. -/
import Derived.Test.YtcmiphgeakdonaaAl
namespace Go.Proofs.Ytcmiphgeakdonaa
open Go.Shelf Go.RowKit Go.Lib
set_option linter.unusedVariables false
set_option linter.unusedSimpArgs false
attribute [local go_sem ↓] Go.wp_at_zero Go.wp_at_succ
/-- A batch that comes. -/
structure Mg where
  m : Strm
  s : Nat
  l : Bool
  r : List (List Val)
def rMg : Rel Mg := fun K W cs x => ∃ v, cs = mgC 4 x.m x.s x.l v ∧ (okS x.m ∧ x.s < 18446744073709551616) ∧ ListIs rRow 1 24 K W v x.r
theorem mMg : Mono rMg := fun K K2 W W' cs x hk hW ⟨v, h1, h2, h3⟩ => ⟨v, h1, h2, h3.mono mRow hk hW⟩
theorem mg_cells {K : Nat → Prop} {w : World} {cs : List Value} {y : Mg} (h : rMg K w cs y) : ∃ qm cm, cs = mgC 4 y.m y.s y.l (.slice qm y.r.length cm) ∧ okS y.m ∧ y.s < 18446744073709551616 ∧ ListIs rRow 1 24 K w (.slice qm y.r.length cm) y.r ∧ y.r.length * 24 ≤ 140737488355328 := by
  obtain ⟨v, rfl, ⟨h1, h2⟩, h3⟩ := h
  obtain ⟨q, c, rfl, h5, _⟩ := id h3
  exact ⟨q, c, rfl, h1, h2, h3, h5.1⟩
/-- Why a batch of that stream is not taken. -/
def refE (x : In_) (y : Mg) : Int := if x.d = true then 15 else if y.s < x.n then 15 else if x.h.any (isS y.s) = true then 15 else if x.n + 4 ≤ y.s then 2 else if 512 ≤ y.s then 2 else if x.h.any (overS y.s y.l) = true then 17 else 0
theorem neq_strm (a b c d e : Int) (w : World) :
    (binOp .neq 26 (.agg #[.int .u64 a, .int .u64 b, .int .i64 c, .int .i64 d, .int .i64 e]) (.agg #[.int .u64 a, .int .u64 b, .int .i64 c, .int .i64 d, .int .i64 e])).run Try.prog w = .ok (.bool false) w := by
  have h := eql_strm a b c d e a b c d e w
  simp only [decide_true, Bool.and_true] at h
  simp only [binOp, Sem.run_bind] at h ⊢
  generalize (Op.equal 26 (.agg #[.int .u64 a, .int .u64 b, .int .i64 c, .int .i64 d, .int .i64 e]) (.agg #[.int .u64 a, .int .u64 b, .int .i64 c, .int .i64 d, .int .i64 e])).run Try.prog w = r at h ⊢
  cases r <;> simp_all
set_option maxRecDepth 100000 in
set_option maxHeartbeats 4000000 in
theorem refuse_any (cs cm' : List Value) (x : In_) (y : Mg) (K : Nat → Prop) (w : World) (h : rIn K w cs x) (hn : x.n ≤ 512) (h' : rMg K w cm' y) (hm : y.m = x.m) (hr8 : y.r.length ≤ 8) (hK : ∀ b, K b → b < w.heap.size) :
    Calls Try.prog 38 #[.agg cs.toArray, .agg cm'.toArray] w fun e w' => e = .returned (.int .i64 (refE x y)) ∧ Below w.heap.size w w' := by
  obtain ⟨q, c, q2, c2, rfl, hok, hn64, hl, hcap, hby, hl2, hcap2, hby2⟩ := in_cells2 h
  obtain ⟨qm, cm, rfl, _, hs64, hlm, hbm⟩ := mg_cells h'
  rw [hm]
  obtain ⟨cl, hcl⟩ : ∃ cl, mgC 4 x.m y.s y.l (.slice qm y.r.length cm) = cl := ⟨_, rfl⟩
  rw [hcl]
  obtain ⟨W0, hW0, hb0, hs0, g0, g1⟩ := two_boxes2 w #[.int .u64 (x.m.qb : Int), .int .u64 (x.m.qn : Int), .int .i64 x.m.at_, .int .i64 x.m.fr, .int .i64 x.m.tq, .int .u64 (x.n : Int), .slice q x.h.length c, .slice q2 x.r.length c2, .bool x.d] cl.toArray 68 62
  have HV : Hid (∀ V, Below W0.heap.size W0 V → Below w.heap.size w V ∧ V.cell? ⟨w.heap.size + 1, 0, none⟩ = some (.int .u8 4) ∧ V.cell? ⟨w.heap.size + 1, 2, none⟩ = some (.int .u64 (x.m.qb : Int)) ∧ V.cell? ⟨w.heap.size + 1, 3, none⟩ = some (.int .u64 (x.m.qn : Int)) ∧ V.cell? ⟨w.heap.size + 1, 4, none⟩ = some (.int .i64 x.m.at_) ∧ V.cell? ⟨w.heap.size + 1, 5, none⟩ = some (.int .i64 x.m.fr) ∧ V.cell? ⟨w.heap.size + 1, 6, none⟩ = some (.int .i64 x.m.tq) ∧ V.cell? ⟨w.heap.size + 1, 37, none⟩ = some (.int .u64 (y.s : Int)) ∧ V.cell? ⟨w.heap.size + 1, 38, none⟩ = some (.bool y.l) ∧ V.cell? ⟨w.heap.size + 1, 39, none⟩ = some (.slice qm y.r.length cm) ∧ V.cell? ⟨w.heap.size, 0, none⟩ = some (.int .u64 (x.m.qb : Int)) ∧ V.cell? ⟨w.heap.size, 1, none⟩ = some (.int .u64 (x.m.qn : Int)) ∧ V.cell? ⟨w.heap.size, 2, none⟩ = some (.int .i64 x.m.at_) ∧ V.cell? ⟨w.heap.size, 3, none⟩ = some (.int .i64 x.m.fr) ∧ V.cell? ⟨w.heap.size, 4, none⟩ = some (.int .i64 x.m.tq) ∧ V.cell? ⟨w.heap.size, 5, none⟩ = some (.int .u64 (x.n : Int)) ∧ V.cell? ⟨w.heap.size, 6, none⟩ = some (.slice q x.h.length c) ∧ V.cell? ⟨w.heap.size, 8, none⟩ = some (.bool x.d)) := fun V hb =>
    ⟨hb0.trans (hb.mono hb0.size), (hb.cell (p := ⟨w.heap.size + 1, 0, none⟩) (by show w.heap.size + 1 < _; omega)).trans (cell_of_row (k := 0) g1 (by subst hcl; rfl)), (hb.cell (p := ⟨w.heap.size + 1, 2, none⟩) (by show w.heap.size + 1 < _; omega)).trans (cell_of_row (k := 2) g1 (by subst hcl; rfl)), (hb.cell (p := ⟨w.heap.size + 1, 3, none⟩) (by show w.heap.size + 1 < _; omega)).trans (cell_of_row (k := 3) g1 (by subst hcl; rfl)), (hb.cell (p := ⟨w.heap.size + 1, 4, none⟩) (by show w.heap.size + 1 < _; omega)).trans (cell_of_row (k := 4) g1 (by subst hcl; rfl)), (hb.cell (p := ⟨w.heap.size + 1, 5, none⟩) (by show w.heap.size + 1 < _; omega)).trans (cell_of_row (k := 5) g1 (by subst hcl; rfl)), (hb.cell (p := ⟨w.heap.size + 1, 6, none⟩) (by show w.heap.size + 1 < _; omega)).trans (cell_of_row (k := 6) g1 (by subst hcl; rfl)), (hb.cell (p := ⟨w.heap.size + 1, 37, none⟩) (by show w.heap.size + 1 < _; omega)).trans (cell_of_row (k := 37) g1 (by subst hcl; rfl)), (hb.cell (p := ⟨w.heap.size + 1, 38, none⟩) (by show w.heap.size + 1 < _; omega)).trans (cell_of_row (k := 38) g1 (by subst hcl; rfl)), (hb.cell (p := ⟨w.heap.size + 1, 39, none⟩) (by show w.heap.size + 1 < _; omega)).trans (cell_of_row (k := 39) g1 (by subst hcl; rfl)), (hb.cell (p := ⟨w.heap.size, 0, none⟩) (by show w.heap.size < _; omega)).trans (cell_of_row (k := 0) g0 rfl), (hb.cell (p := ⟨w.heap.size, 1, none⟩) (by show w.heap.size < _; omega)).trans (cell_of_row (k := 1) g0 rfl), (hb.cell (p := ⟨w.heap.size, 2, none⟩) (by show w.heap.size < _; omega)).trans (cell_of_row (k := 2) g0 rfl), (hb.cell (p := ⟨w.heap.size, 3, none⟩) (by show w.heap.size < _; omega)).trans (cell_of_row (k := 3) g0 rfl), (hb.cell (p := ⟨w.heap.size, 4, none⟩) (by show w.heap.size < _; omega)).trans (cell_of_row (k := 4) g0 rfl), (hb.cell (p := ⟨w.heap.size, 5, none⟩) (by show w.heap.size < _; omega)).trans (cell_of_row (k := 5) g0 rfl), (hb.cell (p := ⟨w.heap.size, 6, none⟩) (by show w.heap.size < _; omega)).trans (cell_of_row (k := 6) g0 rfl), (hb.cell (p := ⟨w.heap.size, 8, none⟩) (by show w.heap.size < _; omega)).trans (cell_of_row (k := 8) g0 rfl)⟩
  have C1 : Hid (∀ V, Below W0.heap.size W0 V → Calls Try.prog 60 #[.slice q x.h.length c, .func (.func 58) #[] #[.pointer (some ⟨w.heap.size + 1, 0, none⟩)]] V fun e w' => e = .returned (.bool (x.h.any (isS y.s))) ∧ Below V.heap.size V w') := fun V hb =>
    contains_any 58 _ enters58 (isS y.s) _ x.h K V (hl.mono mBat (fun _ h => h) (kept_of hK (hb0.trans (hb.mono hb0.size)))) (fun b hk => Nat.lt_of_lt_of_le (hK b hk) (Nat.le_trans hb0.size hb.size))
      (fun W hW z _ p c hz => isIt_any z p c _ y.s W ((hW.cell (p := ⟨w.heap.size + 1, 37, none⟩) (by show w.heap.size + 1 < _; have := hb.size; omega)).trans ((hb.cell (p := ⟨w.heap.size + 1, 37, none⟩) (by show w.heap.size + 1 < _; omega)).trans (cell_of_row (k := 37) g1 (by subst hcl; rfl)))) (by have := hb.size; have := hW.size; omega) hs64 hz)
  have C2 : Hid (∀ V, Below W0.heap.size W0 V → Calls Try.prog 60 #[.slice q x.h.length c, .func (.func 59) #[] #[.pointer (some ⟨w.heap.size + 1, 0, none⟩)]] V fun e w' => e = .returned (.bool (x.h.any (overS y.s y.l))) ∧ Below V.heap.size V w') := fun V hb =>
    contains_any 59 _ enters59 (overS y.s y.l) _ x.h K V (hl.mono mBat (fun _ h => h) (kept_of hK (hb0.trans (hb.mono hb0.size)))) (fun b hk => Nat.lt_of_lt_of_le (hK b hk) (Nat.le_trans hb0.size hb.size))
      (fun W hW z _ p c hz => isOver_any z p c _ y.s y.l W ((hW.cell (p := ⟨w.heap.size + 1, 37, none⟩) (by show w.heap.size + 1 < _; have := hb.size; omega)).trans ((hb.cell (p := ⟨w.heap.size + 1, 37, none⟩) (by show w.heap.size + 1 < _; omega)).trans (cell_of_row (k := 37) g1 (by subst hcl; rfl)))) ((hW.cell (p := ⟨w.heap.size + 1, 38, none⟩) (by show w.heap.size + 1 < _; have := hb.size; omega)).trans ((hb.cell (p := ⟨w.heap.size + 1, 38, none⟩) (by show w.heap.size + 1 < _; omega)).trans (cell_of_row (k := 38) g1 (by subst hcl; rfl)))) (by have := hb.size; have := hW.size; omega) hs64 hz)
  have NE := neq_strm (x.m.qb : Int) (x.m.qn : Int) x.m.at_ x.m.fr x.m.tq
  have y8 : ¬ (8 : Int) < (y.r.length : Int) := by omega
  have y8n : ¬ 8 < y.r.length := by omega
  have hn4 : ((x.n : Int) + 4) % 18446744073709551616 = (x.n : Int) + 4 := by omega
  obtain ⟨hB0, m0, m2, m3, m4, m5, m6, m37, m38, m39, i0, i1, i2, i3, i4, i5, i6, i8⟩ := HV.out W0 (Below.refl _ _)
  have HB0 : Hid (Below w.heap.size w W0) := hB0
  have HW0 : Hid ((w.alloc (.cells #[.int .u64 (x.m.qb : Int), .int .u64 (x.m.qn : Int), .int .i64 x.m.at_, .int .i64 x.m.fr, .int .i64 x.m.tq, .int .u64 (x.n : Int), .slice q x.h.length c, .slice q2 x.r.length c2, .bool x.d] 68)).alloc (.cells cl.toArray 62) = W0) := hW0
  have hW0' := hW0
  clear h h' hK hl hcap hby hl2 hcap2 hby2 hok hlm hbm hb0 hs0 g0 g1 hB0 hcl hm hW0
  cases hd : x.d with
  | true =>
    have HE : Hid (refE x y = 15) := by show _ = _; unfold refE; rw [if_pos hd]
    simp only [hd] at *
    clear hd C1 C2 HV
    go_enter Try.func38, Try.ntmps38
    go_wp2_with fail
    go_ret
    exact ⟨by rw [HE.out]; rfl, HB0.out⟩
  | false =>
    have hdf : ¬ x.d = true := by rw [hd]; simp
    by_cases h1 : y.s < x.n
    · have z1 : (y.s : Int) < (x.n : Int) := by omega
      have HE : Hid (refE x y = 15) := by show _ = _; unfold refE; rw [if_neg hdf, if_pos h1]
      simp only [hd] at *
      clear hd hdf C1 C2 HV
      go_enter Try.func38, Try.ntmps38
      go_wp2_with fail
      go_ret
      exact ⟨by rw [HE.out]; rfl, HB0.out⟩
    · have z1 : ¬ (y.s : Int) < (x.n : Int) := by omega
      have CC1 := hid (C1.out W0 (Below.refl _ _))
      obtain ⟨r1, hr1⟩ : ∃ r1, x.h.any (isS y.s) = r1 := ⟨_, rfl⟩
      rw [hr1] at CC1
      have HE0 : Hid (refE x y = if r1 = true then 15 else if x.n + 4 ≤ y.s then 2 else if 512 ≤ y.s then 2 else if x.h.any (overS y.s y.l) = true then 17 else 0) := by show _ = _; unfold refE; rw [if_neg hdf, if_neg h1, hr1]
      simp only [hd] at *
      clear hd hdf C1 hr1
      go_enter Try.func38, Try.ntmps38
      go_wp2_with fail
      refine CC1.out.mono ?_
      rintro e w1 ⟨rfl, hb1⟩
      clear m0 m2 m3 m4 m5 m6 m37 m38 m39 i0 i1 i2 i3 i4 i5 i6 i8 CC1
      obtain ⟨hB1, m0, m2, m3, m4, m5, m6, m37, m38, m39, i0, i1, i2, i3, i4, i5, i6, i8⟩ := HV.out w1 hb1
      have HB1 : Hid (Below w.heap.size w w1) := hB1
      have CC2 := hid (C2.out w1 hb1)
      clear hB1 C2 HV hb1
      cases r1 with
      | true =>
        have HE : Hid (refE x y = 15) := by show _ = _; rw [HE0.out]; rfl
        clear HE0 CC2
        go_wp2_with fail
        go_ret
        exact ⟨by rw [HE.out]; rfl, HB1.out⟩
      | false =>
        by_cases h2 : x.n + 4 ≤ y.s
        · have z2 : (x.n : Int) + 4 ≤ (y.s : Int) := by omega
          have HE : Hid (refE x y = 2) := by show _ = _; rw [HE0.out, if_neg (by simp), if_pos h2]
          clear HE0 CC2
          go_wp2_with fail
          go_ret
          exact ⟨by rw [HE.out]; rfl, HB1.out⟩
        · have z2 : ¬ (x.n : Int) + 4 ≤ (y.s : Int) := by omega
          by_cases h3 : 512 ≤ y.s
          · have z3 : (512 : Int) ≤ (y.s : Int) := by omega
            have HE : Hid (refE x y = 2) := by show _ = _; rw [HE0.out, if_neg (by simp), if_neg h2, if_pos h3]
            clear HE0 CC2
            go_wp2_with fail
            go_ret
            exact ⟨by rw [HE.out]; rfl, HB1.out⟩
          · have z3 : ¬ (512 : Int) ≤ (y.s : Int) := by omega
            obtain ⟨r2, hr2⟩ : ∃ r2, x.h.any (overS y.s y.l) = r2 := ⟨_, rfl⟩
            have HE : Hid (refE x y = if r2 = true then 17 else 0) := by show _ = _; rw [HE0.out, if_neg (by simp), if_neg h2, if_neg h3, hr2]
            rw [hr2] at CC2
            clear HE0 hr2
            go_wp2_with fail
            refine CC2.out.mono ?_
            rintro e w2 ⟨rfl, hb2⟩
            have HB2 : Hid (Below w.heap.size w w2) := HB1.out.trans (hb2.mono HB1.out.size)
            clear CC2 hb2
            cases r2 with
            | true =>
              go_wp2_with fail
              go_ret
              exact ⟨by rw [HE.out]; rfl, HB2.out⟩
            | false =>
              go_wp2_with fail
              go_ret
              exact ⟨by rw [HE.out]; rfl, HB2.out⟩
end Go.Proofs.Ytcmiphgeakdonaa
