/- The reference: whether a stream that is sent is right. -/
import Derived.Test.YtcmiphgeakdonaaCc
namespace Go.Proofs.Ytcmiphgeakdonaa
open Go.Shelf Go.RowKit Go.Lib Go.Sort
set_option linter.unusedVariables false
set_option linter.unusedSimpArgs false
attribute [local go_sem ↓] Go.wp_at_zero Go.wp_at_succ
/-- A batch that may not be, the one of that place of so many. -/
def badB (n i l : Nat) : Bool := decide (8 < l) || (decide (i + 1 < n) && decide (l < 8)) || (decide (1 < n) && decide (l = 0))
theorem outE_bad (x : Ot) (n i : Nat) (hn : x.b.length = n) (h1 : 0 < n) (h2 : n ≤ 512) (h3 : x.a ≤ n) (hi : i < x.b.length) (hb : badB n i x.b[i].length = true) : outE x = 6 := by
  unfold outE
  rw [if_neg (by omega), if_neg (by omega), if_neg (by omega)]
  by_cases hl : i + 1 < n
  · rw [if_pos]
    rw [List.any_eq_true]
    refine ⟨x.b[i], ?_, ?_⟩
    · rw [List.mem_take_iff_getElem]
      exact ⟨i, by omega, rfl⟩
    · unfold notFull
      unfold badB at hb
      simp only [Bool.or_eq_true, Bool.and_eq_true, decide_eq_true_eq] at hb
      rw [decide_eq_true_eq]
      omega
  · have hin : i = n - 1 := by omega
    by_cases ha : (x.b.take (x.b.length - 1)).any notFull = true
    · rw [if_pos ha]
    · rw [if_neg ha, if_neg]
      have e : x.b[x.b.length - 1]?.getD [] = x.b[i] := by
        rw [show x.b.length - 1 = i by omega, List.getElem?_eq_getElem hi]
        rfl
      rw [e, hn]
      unfold lastP
      unfold badB at hb
      simp only [Bool.or_eq_true, Bool.and_eq_true, decide_eq_true_eq] at hb ⊢
      omega
theorem outE_good (x : Ot) (n : Nat) (hn : x.b.length = n) (h1 : 0 < n) (h2 : n ≤ 512) (h3 : x.a ≤ n) (hg : ∀ i (hi : i < x.b.length), badB n i x.b[i].length = false) : outE x = 0 := by
  unfold outE
  rw [if_neg (by omega), if_neg (by omega), if_neg (by omega), if_neg, if_pos]
  · have hi : n - 1 < x.b.length := by omega
    have e : x.b[x.b.length - 1]?.getD [] = x.b[n - 1] := by
      rw [show x.b.length - 1 = n - 1 by omega, List.getElem?_eq_getElem hi]
      rfl
    have := hg (n - 1) hi
    rw [e, hn]
    unfold badB at this
    unfold lastP
    simp only [Bool.or_eq_false_iff, Bool.and_eq_false_iff, decide_eq_false_iff_not] at this
    simp only [Bool.or_eq_true, Bool.and_eq_true, decide_eq_true_eq]
    omega
  · intro ha
    rw [List.any_eq_true] at ha
    obtain ⟨y, hy, hf⟩ := ha
    rw [List.mem_take_iff_getElem] at hy
    obtain ⟨i, hi, rfl⟩ := hy
    have := hg i (by omega)
    unfold badB at this
    unfold notFull at hf
    simp only [Bool.or_eq_false_iff, Bool.and_eq_false_iff, decide_eq_false_iff_not] at this
    rw [decide_eq_true_eq] at hf
    omega
set_option maxRecDepth 100000 in
set_option maxHeartbeats 8000000 in
theorem refCheckOut_any (cs : List Value) (x : Ot) (K : Nat → Prop) (w : World) (h : rOut K w cs x) (hK : ∀ b, K b → b < w.heap.size) :
    Calls Try.prog 16 #[.agg cs.toArray] w fun e w' => e = .returned (.int .i64 (outE x)) ∧ Below w.heap.size w w' := by
  obtain ⟨q, c, rfl, ⟨_, ha⟩, hl, hcap, hby⟩ := out_cells h
  obtain ⟨W0, hW0⟩ : ∃ W0, w.alloc (.cells #[.int .u64 (x.m.qb : Int), .int .u64 (x.m.qn : Int), .int .i64 x.m.at_, .int .i64 x.m.fr, .int .i64 x.m.tq, .slice q x.b.length c, .int .u64 (x.a : Int)] 29) = W0 := ⟨_, rfl⟩
  have hb0 : Below w.heap.size w W0 := by rw [← hW0]; exact (Below.refl _ _).alloc (Nat.le_refl _) _
  have hg0 : W0.heap[w.heap.size]? = some (.cells #[.int .u64 (x.m.qb : Int), .int .u64 (x.m.qn : Int), .int .i64 x.m.at_, .int .i64 x.m.fr, .int .i64 x.m.tq, .slice q x.b.length c, .int .u64 (x.a : Int)] 29 (0, 0)) := by rw [← hW0]; exact heap_alloc_new w _
  have HL : Hid (ListIs rBch 1 24 K W0 (.slice q x.b.length c) x.b) := hl.mono mBch (fun _ h => h) (kept_of hK hb0)
  have c5 := cell_of_row (k := 5) (v := .slice q x.b.length c) hg0 rfl
  have c6 := cell_of_row (k := 6) (v := .int .u64 (x.a : Int)) hg0 rfl
  have HB0 : Hid (Below w.heap.size w W0) := hb0
  obtain ⟨n, hn⟩ : ∃ n, x.b.length = n := ⟨_, rfl⟩
  have HN : Hid (x.b.length = n) := hn
  have hn63 : n ≤ 5864062014806 := by omega
  rw [hn] at c5 HL hW0 ⊢
  clear h hK hl hcap hby hb0 hg0 hn
  have hm9 : (n : Int) % 18446744073709551616 = (n : Int) := by omega
  by_cases h0 : n = 0
  · have z0 : (n : Int) < 1 := by omega
    have HE : Hid (outE x = 6) := by show _ = _; unfold outE; rw [if_pos (by rw [HN.out]; exact h0)]
    clear h0
    go_enter Try.func16, Try.ntmps16
    go_wp2_with fail
    go_ret
    exact ⟨by rw [HE.out]; rfl, HB0.out⟩
  · have z0 : ¬ (n : Int) < 1 := by omega
    by_cases h5 : 512 < n
    · have z5 : (512 : Int) < (n : Int) := by omega
      have HE : Hid (outE x = 6) := by show _ = _; unfold outE; rw [if_neg (by rw [HN.out]; exact h0), if_pos (by rw [HN.out]; exact h5)]
      clear h0 h5
      go_enter Try.func16, Try.ntmps16
      go_wp2_with fail
      go_ret
      exact ⟨by rw [HE.out]; rfl, HB0.out⟩
    · have z5 : ¬ (512 : Int) < (n : Int) := by omega
      by_cases ha5 : n < x.a
      · have za : (n : Int) < (x.a : Int) := by omega
        have HE : Hid (outE x = 6) := by show _ = _; unfold outE; rw [if_neg (by rw [HN.out]; exact h0), if_neg (by rw [HN.out]; exact h5), if_pos (by rw [HN.out]; exact ha5)]
        clear h0 h5 ha5
        go_enter Try.func16, Try.ntmps16
        go_wp2_with fail
        go_ret
        exact ⟨by rw [HE.out]; rfl, HB0.out⟩
      · have za : ¬ (n : Int) < (x.a : Int) := by omega
        have hn0 : 0 < n := by omega
        have hn5 : n ≤ 512 := by omega
        have han : x.a ≤ n := by omega
        clear h0 h5 ha5
        go_enter Try.func16, Try.ntmps16
        go_wp2_with fail
        clear c5 c6 za hm9 hW0
        go_loopg [25] n (fun gf s25 wx => ∃ i : Nat, s25 = .int .i64 i ∧ i ≤ n ∧ n ≤ i + gf ∧ Hid (∀ j, j < i → ∀ hj : j < x.b.length, badB n j x.b[j].length = false) ∧ wx = W0)
        case atStart => exact ⟨0, rfl, by omega, by omega, fun j hj => by omega, rfl⟩
        case round =>
          obtain ⟨i, rfl, hi1, hgf, HG, rfl⟩ := hrel
          by_cases hi : i < n
          · obtain ⟨g', rfl⟩ : ∃ g', gk = g' + 1 := ⟨gk - 1, by omega⟩
            obtain ⟨b, o, pb, cb, rfl, hKb, c0, hlb⟩ := bch_at HL.out i (by rw [HN.out]; exact hi)
            obtain ⟨l, hyl⟩ : ∃ l, (x.b[i]'(by rw [HN.out]; exact hi)).length = l := ⟨_, rfl⟩
            rw [hyl] at c0
            have hl63 : l ≤ 5864062014806 := by obtain ⟨_, _, _, ⟨hh, _⟩, _⟩ := hlb; rw [hyl] at hh; omega
            have y0 : (0 : Int) ≤ (i : Int) := by omega
            have y1 : (i : Int) < (n : Int) := by omega
            clear hlb hKb
            by_cases h8 : 8 < l
            · have z8 : (8 : Int) < (l : Int) := by omega
              have HE : Hid (outE x = 6) := outE_bad x n i HN.out hn0 hn5 han (by rw [HN.out]; exact hi) (by rw [hyl]; unfold badB; simp only [Bool.or_eq_true, Bool.and_eq_true, decide_eq_true_eq]; omega)
              clear hyl HG
              go_wp2_with fail
              go_ret
              exact ⟨by rw [HE.out]; rfl, HB0.out⟩
            · by_cases hil : i + 1 < n
              · by_cases hl8 : l < 8
                · have z8 : ¬ (8 : Int) < (l : Int) := by omega
                  have zi : (i : Int) < (n : Int) - 1 := by omega
                  have zl : (l : Int) < 8 := by omega
                  have HE : Hid (outE x = 6) := outE_bad x n i HN.out hn0 hn5 han (by rw [HN.out]; exact hi) (by rw [hyl]; unfold badB; simp only [Bool.or_eq_true, Bool.and_eq_true, decide_eq_true_eq]; omega)
                  clear hyl HG
                  go_wp2_with fail
                  go_ret
                  exact ⟨by rw [HE.out]; rfl, HB0.out⟩
                · have z8 : ¬ (8 : Int) < (l : Int) := by omega
                  have zi : (i : Int) < (n : Int) - 1 := by omega
                  have zl : ¬ (l : Int) < 8 := by omega
                  have zn : (1 : Int) < (n : Int) := by omega
                  have ze : ((l : Int) == 0) = false := beq_eq_false_iff_ne.2 (by omega)
                  have HG2 : Hid (∀ j, j < i + 1 → ∀ hj : j < x.b.length, badB n j x.b[j].length = false) := fun j hj hjn => by
                    by_cases hji : j < i
                    · exact HG.out j hji hjn
                    · have e : j = i := by omega
                      subst e
                      rw [hyl]; unfold badB; simp only [Bool.or_eq_false_iff, Bool.and_eq_false_iff, decide_eq_false_iff_not]; omega
                  clear hyl HG
                  go_wp2_with fail
                  go_roundg g'
                  case measure => omega
                  case rel => exact ⟨i + 1, by go_num, by omega, by omega, HG2, rfl⟩
              · by_cases hn1 : 1 < n
                · by_cases hl0 : l = 0
                  · have z8 : ¬ (8 : Int) < (l : Int) := by omega
                    have zi : ¬ (i : Int) < (n : Int) - 1 := by omega
                    have zn : (1 : Int) < (n : Int) := by omega
                    have ze : ((l : Int) == 0) = true := by simp; omega
                    have HE : Hid (outE x = 6) := outE_bad x n i HN.out hn0 hn5 han (by rw [HN.out]; exact hi) (by rw [hyl]; unfold badB; simp only [Bool.or_eq_true, Bool.and_eq_true, decide_eq_true_eq]; omega)
                    clear hyl HG
                    go_wp2_with fail
                    go_ret
                    exact ⟨by rw [HE.out]; rfl, HB0.out⟩
                  · have z8 : ¬ (8 : Int) < (l : Int) := by omega
                    have zi : ¬ (i : Int) < (n : Int) - 1 := by omega
                    have zn : (1 : Int) < (n : Int) := by omega
                    have ze : ((l : Int) == 0) = false := beq_eq_false_iff_ne.2 (by omega)
                    have HG2 : Hid (∀ j, j < i + 1 → ∀ hj : j < x.b.length, badB n j x.b[j].length = false) := fun j hj hjn => by
                      by_cases hji : j < i
                      · exact HG.out j hji hjn
                      · have e : j = i := by omega
                        subst e
                        rw [hyl]; unfold badB; simp only [Bool.or_eq_false_iff, Bool.and_eq_false_iff, decide_eq_false_iff_not]; omega
                    clear hyl HG
                    go_wp2_with fail
                    go_roundg g'
                    case measure => omega
                    case rel => exact ⟨i + 1, by go_num, by omega, by omega, HG2, rfl⟩
                · have z8 : ¬ (8 : Int) < (l : Int) := by omega
                  have zi : ¬ (i : Int) < (n : Int) - 1 := by omega
                  have zn : ¬ (1 : Int) < (n : Int) := by omega
                  have HG2 : Hid (∀ j, j < i + 1 → ∀ hj : j < x.b.length, badB n j x.b[j].length = false) := fun j hj hjn => by
                    by_cases hji : j < i
                    · exact HG.out j hji hjn
                    · have e : j = i := by omega
                      subst e
                      rw [hyl]; unfold badB; simp only [Bool.or_eq_false_iff, Bool.and_eq_false_iff, decide_eq_false_iff_not]; omega
                  clear hyl HG
                  go_wp2_with fail
                  go_roundg g'
                  case measure => omega
                  case rel => exact ⟨i + 1, by go_num, by omega, by omega, HG2, rfl⟩
          · have y1 : ¬ (i : Int) < (n : Int) := by omega
            have HE : Hid (outE x = 0) := outE_good x n HN.out hn0 hn5 han (fun j hj => HG.out j (by have := HN.out; omega) hj)
            clear HG
            go_wp2_with fail
            go_ret
            exact ⟨by rw [HE.out]; rfl, HB0.out⟩
end Go.Proofs.Ytcmiphgeakdonaa
