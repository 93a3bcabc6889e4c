/- New leases; two leases that are held against each other. -/
import Derived.Test.YtdcgppdljcokpaaLd
namespace Go.Proofs.Ytdcgppdljcokpaa
open Go.Shelf Go.RowKit Go.Lib Go.Sort
set_option linter.unusedVariables false
set_option linter.unusedSimpArgs false
attribute [local go_sem ↓] Go.wp_at_zero Go.wp_at_succ
/-- Leases that are answered, with an error's number. -/
def NewP (bs ss : List Int) (er : Int) (w : World) (e : Ending) (w' : World) : Prop :=
  ∃ p c q d, e = .returned (.tuple #[.agg #[.slice p bs.length c, .slice q ss.length d], .int .i64 er]) ∧ NumsL w' (.slice p bs.length c) bs ∧ NumsL w' (.slice q ss.length d) ss ∧ Below w.heap.size w w'
/-- Leases of nobody. -/
def nobody (n : Int) : List Int := if 2 ≤ n ∧ n ≤ 8 then List.replicate n.toNat 0 else []
def newE (n : Int) : Int := if 2 ≤ n ∧ n ≤ 8 then 0 else 2
theorem zeros_in (W : World) (g n : Nat) (Z : Array Value) (hg : W.heap[g]? = some (.cells Z 25 (0, 0))) (hz : ∀ j, j < n → Z[j]? = some (.int .u64 0)) (hn : n ≤ 8) : NumsL W (.slice (some ⟨g, 0, none⟩) n n) (List.replicate n 0) := by
  refine ⟨_, n, by simp, by simp, by omega, by simp; omega, fun z hz => ?_, (fun h => by cases h), fun _ => ⟨g, 0, rfl, (Array.getElem?_eq_some_iff.1 hg).1, fun j hj => ?_⟩⟩
  · have := List.eq_of_mem_replicate hz; omega
  · have hj' : j < n := by simpa using hj
    rw [Nat.zero_add]
    simp [World.cell?, hg, hz j hj']
theorem make_run (k : Nat) (hk : k ≤ 8) : ∃ Z : Array Value, Z.size = k ∧ (∀ j, j < k → Z[j]? = some (.int .u64 0)) ∧ ∀ W, (Instr.makeSlice 22 (.int .i64 (k : Int)) (.int .i64 (k : Int))).run Try.prog W = .ok (.slice (some ⟨W.heap.size, 0, none⟩) k k) (W.alloc (.cells Z 25)) := by
  obtain ⟨i0, hi, hz0, hz1, hz2⟩ := info25
  refine ⟨madeCells (Value.int .u64 0).cells (k * 1), by rw [size_madeCells]; omega, fun j hj => ?_, fun W => ?_⟩
  · have h1 : (madeCells (Value.int .u64 0).cells (k * 1)).toList[j]? = some (.int .u64 0) := by
      rw [show (Value.int .u64 0).cells = #[Value.int .u64 0] from rfl, toList_madeCells_one]
      rw [List.getElem?_replicate, if_pos (by omega)]
    rw [← Array.getElem?_toList]
    exact h1
  · have := run_make (P := Try.prog) (w := W) 22 25 i0 _ Try.underlying22 hi hz0 .i64 .i64 (k : Int) (k : Int) (by omega) (by omega) (by rw [hz2]; omega) (by omega)
    rw [hz1] at this
    simpa using this
set_option maxRecDepth 100000 in
set_option maxHeartbeats 4000000 in
theorem New_any (n : Int) (w : World) : Calls Try.prog 8 #[.int .i64 n] w fun e w' => NewP (nobody n) (nobody n) (newE n) w e w' := by
  have CM : Hid (∀ n W, Calls Try.prog 18 #[.int .i64 n] W fun e w' => e = .returned (.bool (decide (2 ≤ n) && decide (n ≤ 8))) ∧ Below W.heap.size W w') := mayBe_any
  obtain ⟨W0, hW0, hb0, hs0, hx⟩ := box2 w (.slice none 0 0) (.slice none 0 0)
  have HB0 : Hid (Below w.heap.size w W0) := hb0
  have g0 : W0.heap[w.heap.size]? = some (.cells #[.slice none 0 0, .slice none 0 0] 24 (0, 0)) := by rw [← hW0]; exact heap_alloc_new w _
  have HG : Hid (∀ W, Below W0.heap.size W0 W → W.heap[w.heap.size]? = some (.cells #[.slice none 0 0, .slice none 0 0] 24 (0, 0))) := fun W hb => by rw [hb.block _ (by omega)]; exact g0
  by_cases hok : 2 ≤ n ∧ n ≤ 8
  · obtain ⟨k, rfl⟩ : ∃ k : Nat, n = (k : Int) := ⟨n.toNat, by omega⟩
    have e1 : nobody (k : Int) = List.replicate k 0 := by unfold nobody; rw [if_pos hok]; simp
    have e2 : newE (k : Int) = 0 := if_pos hok
    rw [e1, e2]
    obtain ⟨Z, hZ, hZ0, hmk⟩ := make_run k (by omega)
    have d1 : (decide (2 ≤ (k : Int)) && decide ((k : Int) ≤ 8)) = true := by simp; omega
    have C1 := CM.out (k : Int) W0
    rw [d1] at C1
    have HZ : Hid (∀ j, j < k → Z[j]? = some (.int .u64 0)) := hZ0
    have HK : Hid (2 ≤ (k : Int) ∧ (k : Int) ≤ 8) := hok
    clear hx hb0 g0 hZ0 hok d1 CM e1 e2
    go_enter Try.func8, Try.ntmps8
    go_wp2_with fail
    refine C1.mono ?_
    rintro e w1 ⟨rfl, hb1⟩
    clear C1
    obtain ⟨V, hV⟩ : ∃ V, (w1.alloc (.cells Z 25)).alloc (.cells Z 25) = V := ⟨_, rfl⟩
    have hbV : Below w1.heap.size w1 V := by rw [← hV]; exact two_below _ _ _
    have hbV0 : Below W0.heap.size W0 V := hb1.trans (hbV.mono hb1.size)
    have hg1 := HG.out V hbV0
    have hv1 : V.heap[w1.heap.size]? = some (.cells Z 25 (0, 0)) := by rw [← hV, heap_alloc_old _ _ (by simp)]; exact heap_alloc_new w1 _
    have hv2 : V.heap[w1.heap.size + 1]? = some (.cells Z 25 (0, 0)) := by
      rw [← hV]
      have := heap_alloc_new (w1.alloc (.cells Z 25)) (.cells Z 25)
      simpa using this
    have hwl : w.heap.size < w1.heap.size := Nat.lt_of_lt_of_le (by omega) hb1.size
    obtain ⟨Wa, Wb, hWa, hWb, p1, p2, p3, p4, p5, p6, p7, p8, p9, p10⟩ := set_two (W := V.drew) hg1 (.slice (some ⟨w1.heap.size, 0, none⟩) k k) (.slice (some ⟨w1.heap.size + 1, 0, none⟩) k k)
    obtain ⟨Wc, Wd, hWc, hWd, q1, q2, q3, q4, q5, q6, q7, q8, q9, q10⟩ := set_two (W := V.drew) hg1 (.slice (some ⟨w1.heap.size + 1, 0, none⟩) k k) (.slice (some ⟨w1.heap.size, 0, none⟩) k k)
    have HF : Hid (NumsL Wb (.slice (some ⟨w1.heap.size, 0, none⟩) k k) (List.replicate k 0) ∧ NumsL Wb (.slice (some ⟨w1.heap.size + 1, 0, none⟩) k k) (List.replicate k 0) ∧ Below w.heap.size w Wb) := by
      refine ⟨zeros_in Wb _ k Z ?_ HZ.out (by have := HK.out; omega), zeros_in Wb _ k Z ?_ HZ.out (by have := HK.out; omega), p10 _ _ (HB0.out.trans (hbV0.mono HB0.out.size)).drew (Nat.le_refl _)⟩
      · rw [p8 _ (by omega)]; exact hv1
      · rw [p8 _ (by omega)]; exact hv2
    have HE : Hid (NumsL Wd (.slice (some ⟨w1.heap.size, 0, none⟩) k k) (List.replicate k 0) ∧ NumsL Wd (.slice (some ⟨w1.heap.size + 1, 0, none⟩) k k) (List.replicate k 0) ∧ Below w.heap.size w Wd) := by
      refine ⟨zeros_in Wd _ k Z ?_ HZ.out (by have := HK.out; omega), zeros_in Wd _ k Z ?_ HZ.out (by have := HK.out; omega), q10 _ _ (HB0.out.trans (hbV0.mono HB0.out.size)).drew (Nat.le_refl _)⟩
      · rw [q8 _ (by omega)]; exact hv1
      · rw [q8 _ (by omega)]; exact hv2
    clear hb1 hbV hbV0 hg1 hv1 hv2 p7 p8 p9 p10 q7 q8 q9 q10
    go_wp2_with fail
    go_region_held3 (fun w' => True) (trivial) (fail)
    all_goals go_wp2_with fail
    all_goals first
      | exact bodyPost_ret (v := .tuple #[.agg #[.slice (some ⟨w1.heap.size, 0, none⟩) k k, .slice (some ⟨w1.heap.size + 1, 0, none⟩) k k], .int .i64 0]) (by simp [results, Try.results8, go_sem, p5, p6]) rfl ⟨some ⟨w1.heap.size, 0, none⟩, k, some ⟨w1.heap.size + 1, 0, none⟩, k, by simp, by simpa using HF.out.1, by simpa using HF.out.2.1, HF.out.2.2⟩
      | exact bodyPost_ret (v := .tuple #[.agg #[.slice (some ⟨w1.heap.size + 1, 0, none⟩) k k, .slice (some ⟨w1.heap.size, 0, none⟩) k k], .int .i64 0]) (by simp [results, Try.results8, go_sem, q5, q6]) rfl ⟨some ⟨w1.heap.size + 1, 0, none⟩, k, some ⟨w1.heap.size, 0, none⟩, k, by simp, by simpa using HE.out.2.1, by simpa using HE.out.1, HE.out.2.2⟩
  · have e1 : nobody n = [] := if_neg hok
    have e2 : newE n = 2 := if_neg hok
    rw [e1, e2]
    have d1 : (decide (2 ≤ n) && decide (n ≤ 8)) = false := by
      cases hd : (decide (2 ≤ n) && decide (n ≤ 8))
      · rfl
      · simp at hd; exact absurd hd hok
    have C1 := CM.out n W0
    rw [d1] at C1
    clear hx hb0 g0 hok d1 CM e1 e2
    go_enter Try.func8, Try.ntmps8
    go_wp2_with fail
    refine C1.mono ?_
    rintro e w1 ⟨rfl, hb1⟩
    have hg1 := HG.out w1 hb1
    have t0 : w1.setCell ⟨w.heap.size, 0, none⟩ (.slice none 0 0) = w1 := setCell_self hg1 rfl
    have t1 : w1.setCell ⟨w.heap.size, 1, none⟩ (.slice none 0 0) = w1 := setCell_self hg1 rfl
    have x0 := cell_of_row (k := 0) hg1 rfl
    have x1 := cell_of_row (k := 1) hg1 rfl
    have f0 := frozen_zero hg1 0
    have f1 := frozen_zero hg1 1
    have HB1 : Hid (Below w.heap.size w w1) := HB0.out.trans (hb1.mono HB0.out.size)
    clear C1 hb1 hg1
    go_wp2_with fail
    exact bodyPost_ret (v := .tuple #[.agg #[.slice none 0 0, .slice none 0 0], .int .i64 2]) (by simp [results, Try.results8, go_sem, x0, x1]) rfl ⟨none, 0, none, 0, rfl, NumsL.nil _, NumsL.nil _, HB1.out⟩
set_option maxRecDepth 100000 in
set_option maxHeartbeats 4000000 in
theorem refNew_any (n : Int) (w : World) : Calls Try.prog 9 #[.int .i64 n] w fun e w' => NewP (nobody n) (nobody n) (newE n) w e w' := by
  have CM : Hid (∀ n W, Calls Try.prog 18 #[.int .i64 n] W fun e w' => e = .returned (.bool (decide (2 ≤ n) && decide (n ≤ 8))) ∧ Below W.heap.size W w') := mayBe_any
  obtain ⟨W0, hW0, hb0, hs0, hx⟩ := box2 w (.slice none 0 0) (.slice none 0 0)
  have HB0 : Hid (Below w.heap.size w W0) := hb0
  have g0 : W0.heap[w.heap.size]? = some (.cells #[.slice none 0 0, .slice none 0 0] 24 (0, 0)) := by rw [← hW0]; exact heap_alloc_new w _
  have HG : Hid (∀ W, Below W0.heap.size W0 W → W.heap[w.heap.size]? = some (.cells #[.slice none 0 0, .slice none 0 0] 24 (0, 0))) := fun W hb => by rw [hb.block _ (by omega)]; exact g0
  by_cases hok : 2 ≤ n ∧ n ≤ 8
  · obtain ⟨k, rfl⟩ : ∃ k : Nat, n = (k : Int) := ⟨n.toNat, by omega⟩
    have e1 : nobody (k : Int) = List.replicate k 0 := by unfold nobody; rw [if_pos hok]; simp
    have e2 : newE (k : Int) = 0 := if_pos hok
    rw [e1, e2]
    obtain ⟨Z, hZ, hZ0, hmk⟩ := make_run k (by omega)
    have d1 : (decide (2 ≤ (k : Int)) && decide ((k : Int) ≤ 8)) = true := by simp; omega
    have C1 := CM.out (k : Int) W0
    rw [d1] at C1
    have HZ : Hid (∀ j, j < k → Z[j]? = some (.int .u64 0)) := hZ0
    have HK : Hid (2 ≤ (k : Int) ∧ (k : Int) ≤ 8) := hok
    have hb1 : Below W0.heap.size W0 W0 := Below.refl _ _
    obtain ⟨w1, hw1⟩ : ∃ w1, W0 = w1 := ⟨_, rfl⟩
    have hb1 : Below W0.heap.size W0 w1 := by rw [← hw1]; exact Below.refl _ _
    have k1 : ¬ (k : Int) < 2 := by omega
    have k2 : ¬ (8 : Int) < (k : Int) := by omega
    have hW0' : w.alloc (.cells #[.slice none 0 0, .slice none 0 0] 24) = w1 := by rw [← hw1]; exact hW0
    clear hx hb0 g0 hZ0 hok d1 CM e1 e2 C1 hw1 hW0
    obtain ⟨V, hV⟩ : ∃ V, (w1.alloc (.cells Z 25)).alloc (.cells Z 25) = V := ⟨_, rfl⟩
    have hbV : Below w1.heap.size w1 V := by rw [← hV]; exact two_below _ _ _
    have hbV0 : Below W0.heap.size W0 V := hb1.trans (hbV.mono hb1.size)
    have hg1 := HG.out V hbV0
    have hv1 : V.heap[w1.heap.size]? = some (.cells Z 25 (0, 0)) := by rw [← hV, heap_alloc_old _ _ (by simp)]; exact heap_alloc_new w1 _
    have hv2 : V.heap[w1.heap.size + 1]? = some (.cells Z 25 (0, 0)) := by
      rw [← hV]
      have := heap_alloc_new (w1.alloc (.cells Z 25)) (.cells Z 25)
      simpa using this
    have hwl : w.heap.size < w1.heap.size := Nat.lt_of_lt_of_le (by omega) hb1.size
    obtain ⟨Wa, Wb, hWa, hWb, p1, p2, p3, p4, p5, p6, p7, p8, p9, p10⟩ := set_two (W := V.drew) hg1 (.slice (some ⟨w1.heap.size, 0, none⟩) k k) (.slice (some ⟨w1.heap.size + 1, 0, none⟩) k k)
    obtain ⟨Wc, Wd, hWc, hWd, q1, q2, q3, q4, q5, q6, q7, q8, q9, q10⟩ := set_two (W := V.drew) hg1 (.slice (some ⟨w1.heap.size + 1, 0, none⟩) k k) (.slice (some ⟨w1.heap.size, 0, none⟩) k k)
    have HF : Hid (NumsL Wb (.slice (some ⟨w1.heap.size, 0, none⟩) k k) (List.replicate k 0) ∧ NumsL Wb (.slice (some ⟨w1.heap.size + 1, 0, none⟩) k k) (List.replicate k 0) ∧ Below w.heap.size w Wb) := by
      refine ⟨zeros_in Wb _ k Z ?_ HZ.out (by have := HK.out; omega), zeros_in Wb _ k Z ?_ HZ.out (by have := HK.out; omega), p10 _ _ (HB0.out.trans (hbV0.mono HB0.out.size)).drew (Nat.le_refl _)⟩
      · rw [p8 _ (by omega)]; exact hv1
      · rw [p8 _ (by omega)]; exact hv2
    have HE : Hid (NumsL Wd (.slice (some ⟨w1.heap.size, 0, none⟩) k k) (List.replicate k 0) ∧ NumsL Wd (.slice (some ⟨w1.heap.size + 1, 0, none⟩) k k) (List.replicate k 0) ∧ Below w.heap.size w Wd) := by
      refine ⟨zeros_in Wd _ k Z ?_ HZ.out (by have := HK.out; omega), zeros_in Wd _ k Z ?_ HZ.out (by have := HK.out; omega), q10 _ _ (HB0.out.trans (hbV0.mono HB0.out.size)).drew (Nat.le_refl _)⟩
      · rw [q8 _ (by omega)]; exact hv1
      · rw [q8 _ (by omega)]; exact hv2
    clear hb1 hbV hbV0 hg1 hv1 hv2 p7 p8 p9 p10 q7 q8 q9 q10
    go_enter Try.func9, Try.ntmps9
    go_wp2_with fail
    go_region_held3 (fun w' => True) (trivial) (fail)
    all_goals go_wp2_with fail
    all_goals first
      | exact bodyPost_ret (v := .tuple #[.agg #[.slice (some ⟨w1.heap.size, 0, none⟩) k k, .slice (some ⟨w1.heap.size + 1, 0, none⟩) k k], .int .i64 0]) (by simp [results, Try.results9, go_sem, p5, p6]) rfl ⟨some ⟨w1.heap.size, 0, none⟩, k, some ⟨w1.heap.size + 1, 0, none⟩, k, by simp, by simpa using HF.out.1, by simpa using HF.out.2.1, HF.out.2.2⟩
      | exact bodyPost_ret (v := .tuple #[.agg #[.slice (some ⟨w1.heap.size + 1, 0, none⟩) k k, .slice (some ⟨w1.heap.size, 0, none⟩) k k], .int .i64 0]) (by simp [results, Try.results9, go_sem, q5, q6]) rfl ⟨some ⟨w1.heap.size + 1, 0, none⟩, k, some ⟨w1.heap.size, 0, none⟩, k, by simp, by simpa using HE.out.2.1, by simpa using HE.out.1, HE.out.2.2⟩
  · have e1 : nobody n = [] := if_neg hok
    have e2 : newE n = 2 := if_neg hok
    rw [e1, e2]
    obtain ⟨w1, hw1⟩ : ∃ w1, W0 = w1 := ⟨_, rfl⟩
    have hb1 : Below W0.heap.size W0 w1 := by rw [← hw1]; exact Below.refl _ _
    have hW0' : w.alloc (.cells #[.slice none 0 0, .slice none 0 0] 24) = w1 := by rw [← hw1]; exact hW0
    have hg1 := HG.out w1 hb1
    have t0 : w1.setCell ⟨w.heap.size, 0, none⟩ (.slice none 0 0) = w1 := setCell_self hg1 rfl
    have t1 : w1.setCell ⟨w.heap.size, 1, none⟩ (.slice none 0 0) = w1 := setCell_self hg1 rfl
    have x0 := cell_of_row (k := 0) hg1 rfl
    have x1 := cell_of_row (k := 1) hg1 rfl
    have f0 := frozen_zero hg1 0
    have f1 := frozen_zero hg1 1
    have HB1 : Hid (Below w.heap.size w w1) := HB0.out.trans (hb1.mono HB0.out.size)
    clear hb1 hg1 CM hx hb0 g0 e1 e2 hw1 hW0
    by_cases k1 : n < 2
    · go_enter Try.func9, Try.ntmps9
      go_wp2_with fail
      exact bodyPost_ret (v := .tuple #[.agg #[.slice none 0 0, .slice none 0 0], .int .i64 2]) (by simp [results, Try.results9, go_sem, x0, x1]) rfl ⟨none, 0, none, 0, rfl, NumsL.nil _, NumsL.nil _, HB1.out⟩
    · have k2 : (8 : Int) < n := by omega
      go_enter Try.func9, Try.ntmps9
      go_wp2_with fail
      exact bodyPost_ret (v := .tuple #[.agg #[.slice none 0 0, .slice none 0 0], .int .i64 2]) (by simp [results, Try.results9, go_sem, x0, x1]) rfl ⟨none, 0, none, 0, rfl, NumsL.nil _, NumsL.nil _, HB1.out⟩
end Go.Proofs.Ytdcgppdljcokpaa
