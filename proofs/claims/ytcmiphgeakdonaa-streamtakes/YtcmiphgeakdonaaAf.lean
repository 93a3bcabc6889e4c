/- What CheckOut answers. -/
import Derived.Test.YtcmiphgeakdonaaAe
namespace Go.Proofs.Ytcmiphgeakdonaa
open Go.Shelf Go.RowKit Go.Lib
set_option linter.unusedVariables false
set_option linter.unusedSimpArgs false
attribute [local go_sem ↓] Go.wp_at_zero Go.wp_at_succ
/-- What CheckOut tells. -/
def outE (x : Ot) : Int := if x.b.length = 0 then 6 else if 512 < x.b.length then 6 else if x.b.length < x.a then 6 else if (x.b.take (x.b.length - 1)).any notFull = true then 6 else if lastP ((x.b[x.b.length - 1]?.getD []).length) x.b.length = true then 0 else 6
theorem list_take {K : Nat → Prop} {w : World} {q : Option Addr} {n c : Nat} {bs : List (List (List Val))} (h : ListIs rBch 1 24 K w (.slice q n c) bs) (i : Nat) (hi : i ≤ bs.length) : ListIs rBch 1 24 K w (.slice q i c) (bs.take i) := by
  obtain ⟨q', c', e, hby, hp⟩ := h
  cases e
  have hl : (bs.take i).length = i := by simp; omega
  refine ⟨q, c, by rw [hl], ⟨by rw [hl]; omega, by rw [hl]; omega⟩, fun h0 => ?_⟩
  obtain ⟨b, o, rfl, hKb, hc⟩ := hp (by omega)
  refine ⟨b, o, rfl, hKb, fun j hj => ?_⟩
  obtain ⟨cs, h1, h2, h3⟩ := hc j (by omega)
  exact ⟨cs, h1, h2, by simpa using h3⟩
theorem out_cells {K : Nat → Prop} {w : World} {cs : List Value} {x : Ot} (h : rOut K w cs x) : ∃ q c, cs = [.int .u64 (x.m.qb : Int), .int .u64 (x.m.qn : Int), .int .i64 x.m.at_, .int .i64 x.m.fr, .int .i64 x.m.tq, .slice q x.b.length c, .int .u64 (x.a : Int)] ∧ (okS x.m ∧ x.a < 18446744073709551616) ∧ ListIs rBch 1 24 K w (.slice q x.b.length c) x.b ∧ x.b.length ≤ c ∧ x.b.length * 24 ≤ 140737488355328 := by
  obtain ⟨v, rfl, h1, h2⟩ := h
  obtain ⟨q, c, rfl, h3, _⟩ := id h2
  exact ⟨q, c, rfl, h1, h2, h3.2, h3.1⟩
set_option maxRecDepth 100000 in
set_option maxHeartbeats 8000000 in
theorem checkOut_any (cs : List Value) (x : Ot) (K : Nat → Prop) (w : World) (h : rOut K w cs x) (hK : ∀ b, K b → b < w.heap.size) :
    Calls Try.prog 15 #[.agg cs.toArray] w fun e w' => e = .returned (.int .i64 (outE x)) ∧ Below w.heap.size w w' := by
  obtain ⟨q, c, rfl, ⟨_, ha⟩, hl, hcap, hby⟩ := out_cells h
  obtain ⟨W0, hW0⟩ : ∃ W0, w.alloc (.cells #[.int .u64 (x.m.qb : Int), .int .u64 (x.m.qn : Int), .int .i64 x.m.at_, .int .i64 x.m.fr, .int .i64 x.m.tq, .slice q x.b.length c, .int .u64 (x.a : Int)] 29) = W0 := ⟨_, rfl⟩
  have hb0 : Below w.heap.size w W0 := by rw [← hW0]; exact (Below.refl _ _).alloc (Nat.le_refl _) _
  have hg0 : W0.heap[w.heap.size]? = some (.cells #[.int .u64 (x.m.qb : Int), .int .u64 (x.m.qn : Int), .int .i64 x.m.at_, .int .i64 x.m.fr, .int .i64 x.m.tq, .slice q x.b.length c, .int .u64 (x.a : Int)] 29 (0, 0)) := by rw [← hW0]; exact heap_alloc_new w _
  have hs0 : w.heap.size < W0.heap.size := (Array.getElem?_eq_some_iff.1 hg0).1
  have HV : Hid (∀ V, Below W0.heap.size W0 V → V.cell? ⟨w.heap.size, 5, none⟩ = some (.slice q x.b.length c) ∧ Below w.heap.size w V ∧ ListIs rBch 1 24 K V (.slice q x.b.length c) x.b ∧ ∀ b, K b → b < V.heap.size) := fun V hb => by
    have hbw : Below w.heap.size w V := hb0.trans (hb.mono hb0.size)
    exact ⟨(hb.cell (p := ⟨w.heap.size, 5, none⟩) hs0).trans (cell_of_row (k := 5) hg0 rfl), hbw, hl.mono mBch (fun _ h => h) (kept_of hK hbw), fun b hk => Nat.lt_of_lt_of_le (hK b hk) hbw.size⟩
  have c5 := cell_of_row (k := 5) hg0 rfl
  have c6 := cell_of_row (k := 6) hg0 rfl
  have HB0 : Hid (Below w.heap.size w W0) := hb0
  obtain ⟨n, hn⟩ : ∃ n, x.b.length = n := ⟨_, rfl⟩
  have HN : Hid (x.b.length = n) := hn
  have hn63 : n ≤ 5864062014806 := by omega
  have hncap : n ≤ c := by omega
  rw [hn] at c5 HV hW0 ⊢
  clear h hK hl hcap hby hb0 hg0 hs0 hn
  by_cases h0 : n = 0
  · have z0 : ((n : Int) == 0) = true := by simp; omega
    have HE : Hid (outE x = 6) := by show _ = _; unfold outE; rw [if_pos (by rw [HN.out]; exact h0)]
    clear h0
    go_enter Try.func15, Try.ntmps15
    go_wp2_with fail
    go_ret
    exact ⟨by rw [HE.out]; rfl, HB0.out⟩
  · have z0 : ((n : Int) == 0) = false := beq_eq_false_iff_ne.2 (by omega)
    by_cases h5 : 512 < n
    · have z5 : (512 : Int) < (n : Int) := by omega
      have HE : Hid (outE x = 6) := by show _ = _; unfold outE; rw [if_neg (by rw [HN.out]; exact h0), if_pos (by rw [HN.out]; exact h5)]
      clear h0 h5
      go_enter Try.func15, Try.ntmps15
      go_wp2_with fail
      go_ret
      exact ⟨by rw [HE.out]; rfl, HB0.out⟩
    · have z5 : ¬ (512 : Int) < (n : Int) := by omega
      by_cases h6 : n < x.a
      · have z6 : (n : Int) < (x.a : Int) := by omega
        have HE : Hid (outE x = 6) := by show _ = _; unfold outE; rw [if_neg (by rw [HN.out]; exact h0), if_neg (by rw [HN.out]; exact h5), if_pos (by rw [HN.out]; exact h6)]
        clear h0 h5 h6
        go_enter Try.func15, Try.ntmps15
        go_wp2_with fail
        go_ret
        exact ⟨by rw [HE.out]; rfl, HB0.out⟩
      · have z6 : ¬ (n : Int) < (x.a : Int) := by omega
        obtain ⟨m, rfl⟩ : ∃ m, n = m + 1 := ⟨n - 1, by omega⟩
        obtain ⟨t1, t2, t3, t4⟩ := HV.out W0 (Below.refl _ _)
        have CF : Hid (Calls Try.prog 35 #[.slice q m c] W0 fun e w' => e = .returned (.bool (!(x.b.take m).any notFull)) ∧ Below W0.heap.size W0 w') := areFull_any _ _ K W0 (list_take t3 m (by have := HN.out; omega)) t4
        obtain ⟨r, hr⟩ : ∃ r, (x.b.take m).any notFull = r := ⟨_, rfl⟩
        rw [hr] at CF
        have zm0 : (0 : Int) ≤ (m : Int) := by omega
        have y0 : ((m : Int) + 1 == 0) = false := beq_eq_false_iff_ne.2 (by omega)
        have y5 : ¬ (512 : Int) < (m : Int) + 1 := by omega
        have y6 : ¬ (m : Int) + 1 < (x.a : Int) := by omega
        clear z0 z5 z6
        have zmc : (m : Int) ≤ (c : Int) := by omega
        have HE0 : Hid (outE x = if r = true then 6 else if lastP ((x.b[m]?.getD []).length) (m + 1) = true then 0 else 6) := by
          show _ = _
          unfold outE
          rw [HN.out, if_neg h0, if_neg h5, if_neg h6, Nat.add_sub_cancel, hr]
        clear t1 t2 t3 t4 hr h0 h5 h6
        go_enter Try.func15, Try.ntmps15
        go_wp2_with fail
        refine CF.out.mono ?_
        rintro e w1 ⟨rfl, hb1⟩
        obtain ⟨t1, t2, t3, t4⟩ := HV.out w1 hb1
        have HB1 : Hid (Below w.heap.size w w1) := t2
        cases r with
        | true =>
          have HE : Hid (outE x = 6) := by show _ = _; rw [HE0.out]; rfl
          clear t1 t2 t3 t4 hb1 CF HE0
          go_wp2_with fail
          go_ret
          exact ⟨by rw [HE.out]; rfl, HB1.out⟩
        | false =>
          obtain ⟨b, o, p, c', rfl, hKb, hcell, hll⟩ := bch_at t3 m (by have := HN.out; omega)
          have hx : x.b[m]?.getD [] = x.b[m]'(by have := HN.out; omega) := by rw [List.getElem?_eq_getElem (by have := HN.out; omega)]; rfl
          obtain ⟨y, hy⟩ : ∃ y, x.b[m]'(by have := HN.out; omega) = y := ⟨_, rfl⟩
          rw [hy] at hcell hx hll
          have hyl : y.length ≤ 140737488355328 := by obtain ⟨_, _, _, h9, _⟩ := hll; omega
          have CL := hid (isLast_any p y.length c' (m + 1) w1 hyl (by omega))
          obtain ⟨r2, hr2⟩ : ∃ r2, lastP y.length (m + 1) = r2 := ⟨_, rfl⟩
          rw [hr2] at CL
          have HE : Hid (outE x = if r2 = true then 0 else 6) := by show _ = _; rw [HE0.out, hx, hr2]; rfl
          clear t2 t3 t4 hb1 CF HE0 hx hy hr2 hll hKb
          go_wp2_with fail
          refine CL.out.mono ?_
          rintro e w2 ⟨rfl, rfl⟩
          clear CL
          cases r2 <;> (go_wp2_with fail; go_ret; exact ⟨by rw [HE.out]; rfl, HB1.out⟩)
end Go.Proofs.Ytcmiphgeakdonaa
