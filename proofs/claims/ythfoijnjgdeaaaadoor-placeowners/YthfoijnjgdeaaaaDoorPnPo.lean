/- What the reference's Owners answers. -/
import Derived.Test.YthfoijnjgdeaaaaDoorPlPm
namespace Go.Proofs.YthfoijnjgdeaaaaDoor
open Go.Shelf Go.RowKit Go.Lib Go.Sort
set_option linter.unusedVariables false
set_option linter.unusedSimpArgs false
attribute [local go_sem ↓] Go.wp_at_zero Go.wp_at_succ
/-- The owners as the reference makes them. -/
def oR (M sh : Int) (c k : Nat) : List Int := ((List.range k).filter fun (r : Nat) => decide (1 + (sh + (r : Int)) % M = (c : Int))).map fun _ => (c : Int)
def oA (M sh : Int) (R c : Nat) : List Int := (List.range c).flatMap fun j => oR M sh (j + 1) R
theorem oR_len (M sh : Int) (c k : Nat) : (oR M sh c k).length ≤ k := by
  unfold oR
  rw [List.length_map]
  exact Nat.le_trans (List.length_filter_le _ _) (by simp)
theorem oR_yes (M sh : Int) (c k : Nat) (h : 1 + (sh + (k : Int)) % M = (c : Int)) : oR M sh c (k + 1) = oR M sh c k ++ [(c : Int)] := by
  unfold oR
  rw [List.range_succ, List.filter_append, List.map_append]
  simp [h]
theorem oR_no (M sh : Int) (c k : Nat) (h : ¬ 1 + (sh + (k : Int)) % M = (c : Int)) : oR M sh c (k + 1) = oR M sh c k := by
  unfold oR
  rw [List.range_succ, List.filter_append, List.map_append]
  simp [h]
theorem oA_step (M sh : Int) (R c : Nat) : oA M sh R (c + 1) = oA M sh R c ++ oR M sh (c + 1) R := by
  unfold oA
  rw [List.range_succ, List.flatMap_append]
  simp
theorem oA_len (M sh : Int) (R : Nat) : ∀ c, (oA M sh R c).length ≤ c * R
  | 0 => by simp [oA]
  | c + 1 => by
    rw [oA_step, List.length_append, Nat.succ_mul]
    exact Nat.add_le_add (oA_len M sh R c) (oR_len _ _ _ _)
theorem oA_all : ∀ m : Fin 8, ∀ R : Fin 8, ∀ sh : Fin 8, R.1 ≤ m.1 → (oA (m.1 : Int) (sh.1 : Int) R.1 m.1).isPerm (ownL ((m.1 : Int) + 1) (sh.1 : Int) R.1) = true ∧ (oA (m.1 : Int) (sh.1 : Int) R.1 m.1).Pairwise (fun x y => decide (x ≤ y) = true) := by decide +kernel
theorem oA_sorted (N : Int) (S : Int) (R : Nat) (sh : Int) (m : Nat) (hN : N = (m : Int) + 1) (h0 : layE N S R = 0) (hr : 0 ≤ sh ∧ sh ≤ S - 1) : oA (N - 1) sh R m = (ownL N sh R).mergeSort fun x y => decide (x ≤ y) := by
  obtain ⟨k1, k2, k3, k4, k5, k6⟩ := layE_zero.1 h0
  obtain ⟨s, rfl⟩ : ∃ s : Nat, sh = (s : Int) := ⟨sh.toNat, by omega⟩
  have h := oA_all ⟨m, by omega⟩ ⟨R, by omega⟩ ⟨s, by omega⟩ (by show R ≤ m; omega)
  simp only at h
  have e1 : N - 1 = (m : Int) := by omega
  rw [e1]
  subst hN
  refine List.Perm.eq_of_pairwise (le := fun x y => decide (x ≤ y) = true) (fun a b _ _ h1 h2 => by simp only [decide_eq_true_eq] at h1 h2; omega) h.2 (List.pairwise_mergeSort (fun a b c h1 h2 => by simp only [decide_eq_true_eq] at h1 h2 ⊢; omega) (fun a b => by simp; omega) _) ((List.isPerm_iff.1 h.1).trans (List.mergeSort_perm _ _).symm)
/-- Owners that are being put together. -/
def OwnI (w1 : World) (v : Value) (zs : List Int) (wx : World) : Prop := wx.ownsRow w1.heap.size 3 1 v zs.length (zs.map fun z => .int .i64 z) ∧ Below w1.heap.size w1 wx
theorem OwnI.ints {w1 wx : World} {v : Value} {zs : List Int} (h : OwnI w1 v zs wx) (hn : zs.length ≤ 9223372036854775807) : IntsL wx v zs := by
  obtain ⟨⟨hl, ⟨rfl, h0⟩ | ⟨g, cap, cur, rfl, hbg, hg, hnc, hcm, hcs, htake⟩⟩, hb⟩ := h
  · exact ⟨none, 0, by rw [h0], hn, fun h => by omega⟩
  · refine ⟨_, cap, rfl, hn, fun _ => ⟨g, 0, rfl, (Array.getElem?_eq_some_iff.1 hg).1, fun j hj => ?_⟩⟩
    have h1 : (zs.map fun z => Value.int .i64 z)[j]? = some (.int .i64 zs[j]) := by simp [hj]
    rw [← htake] at h1
    have := List.getElem?_take (l := cur.toList) (i := zs.length * 1) (j := j)
    rw [h1] at this
    rw [Nat.zero_add]
    split at this
    · simp only [World.cell?, hg]
      simpa using this.symm
    · cases this
set_option maxRecDepth 100000 in
set_option maxHeartbeats 4000000 in
theorem refOwners_bad (N S R sh : Int) (w : World) (h : ownE N S R sh ≠ 0) :
    Calls Tryd.prog 10 #[.agg #[.int .i64 N, .int .i64 S, .int .i64 R], .int .i64 sh] w fun e w' => e = .returned (.tuple #[.slice none 0 0, .int .i64 2]) ∧ Below w.heap.size w w' := by
  by_cases h0 : layE N S R = 0
  · have C1 : Hid (∀ W, Calls Tryd.prog 19 #[.agg #[.int .i64 N, .int .i64 S, .int .i64 R]] W fun e w' => e = .returned (.int .i64 0) ∧ Below W.heap.size W w') := fun W => by rw [← h0]; exact refLay_any N S R W
    have hr : ¬ (0 ≤ sh ∧ sh ≤ S - 1) := fun hr => h (by unfold ownE; rw [if_pos h0, if_pos hr])
    clear h h0
    by_cases hs : sh < 0
    · clear hr
      go_enter Tryd.func10, Tryd.ntmps10
      go_wp2_with fail
      refine (C1.out _).mono ?_
      rintro e w1 ⟨rfl, hb1⟩
      have HB : Hid (Below w.heap.size w w1) := (box3_below w _ _ _).trans (hb1.mono (by simp))
      clear hb1
      go_wp2_with fail
      go_ret2
      exact ⟨rfl, HB.out⟩
    · have hS : S ≤ sh := by omega
      clear hr
      go_enter Tryd.func10, Tryd.ntmps10
      go_wp2_with fail
      refine (C1.out _).mono ?_
      rintro e w1 ⟨rfl, hb1⟩
      have y1 : w1.cell? ⟨w.heap.size, 1, none⟩ = some (.int .i64 S) := by rw [hb1.cell (by simp)]; exact cell_box w _ _ _ _ rfl
      have HB : Hid (Below w.heap.size w w1) := (box3_below w _ _ _).trans (hb1.mono (by simp))
      clear hb1
      go_wp2_with fail
      go_ret2
      exact ⟨rfl, HB.out⟩
  · have C1 : Hid (∀ W, Calls Tryd.prog 19 #[.agg #[.int .i64 N, .int .i64 S, .int .i64 R]] W fun e w' => e = .returned (.int .i64 2) ∧ Below W.heap.size W w') := fun W => by rw [← layE_two h0]; exact refLay_any N S R W
    clear h h0
    go_enter Tryd.func10, Tryd.ntmps10
    go_wp2_with fail
    refine (C1.out _).mono ?_
    rintro e w1 ⟨rfl, hb1⟩
    have HB : Hid (Below w.heap.size w w1) := (box3_below w _ _ _).trans (hb1.mono (by simp))
    clear hb1
    go_wp2_with fail
    go_ret2
    exact ⟨rfl, HB.out⟩
end Go.Proofs.YthfoijnjgdeaaaaDoor
/- What the reference's Owners answers of a right shard. -/
namespace Go.Proofs.YthfoijnjgdeaaaaDoor
open Go.Shelf Go.RowKit Go.Lib Go.Sort
set_option linter.unusedVariables false
set_option linter.unusedSimpArgs false
attribute [local go_sem ↓] Go.wp_at_zero Go.wp_at_succ
set_option maxRecDepth 100000 in
set_option maxHeartbeats 1000000 in
theorem refOwners_good (N S : Int) (R : Nat) (sh : Int) (w : World) (h0 : layE N S R = 0) (hr : 0 ≤ sh ∧ sh ≤ S - 1) :
    Calls Tryd.prog 10 #[.agg #[.int .i64 N, .int .i64 S, .int .i64 R], .int .i64 sh] w fun e w' => ∃ u, e = .returned (.tuple #[u, .int .i64 0]) ∧ IntsL w' u ((ownL N sh R).mergeSort fun x y => decide (x ≤ y)) ∧ Below w.heap.size w w' := by
  have C1 : Hid (∀ W, Calls Tryd.prog 19 #[.agg #[.int .i64 N, .int .i64 S, .int .i64 R]] W fun e w' => e = .returned (.int .i64 0) ∧ Below W.heap.size W w') := fun W => by rw [← h0]; exact refLay_any N S R W
  obtain ⟨k1, k2, k3, k4, k5, k6⟩ := layE_zero.1 h0
  obtain ⟨m, hm⟩ : ∃ m : Nat, N = (m : Int) + 1 := ⟨(N - 1).toNat, by omega⟩
  have HS : Hid (oA (N - 1) sh R m = (ownL N sh R).mergeSort fun x y => decide (x ≤ y)) := oA_sorted N S R sh m hm h0 hr
  have HL : Hid (∀ c k, c < m → k ≤ R → (oA (N - 1) sh R c ++ oR (N - 1) sh (c + 1) k).length ≤ 64) := fun c k hc hk => by
    rw [List.length_append]
    have h1 := oA_len (N - 1) sh R c
    have h2 := oR_len (N - 1) sh (c + 1) k
    have h3 : c * R ≤ 7 * 7 := Nat.mul_le_mul (by omega) (by omega)
    omega
  have hm1 : N ≤ (m : Int) + 1 := by omega
  have hm2 : (m : Int) + 1 ≤ N := by omega
  clear hm
  obtain ⟨hr0, hr1⟩ := hr
  obtain ⟨i0, hi, hz0', hz1', hz2'⟩ := info3
  have n0 : ¬ sh < 0 := by omega
  have n1 : ¬ S ≤ sh := by omega
  have hw2 : IntKind.i64.wrap (N - 1) = N - 1 := by rw [IntKind.wrap_i64]; omega
  clear h0
  go_enter Tryd.func10, Tryd.ntmps10
  go_wp2_with fail
  refine (C1.out _).mono ?_
  rintro e w1 ⟨rfl, hb1⟩
  have y0 : w1.cell? ⟨w.heap.size, 0, none⟩ = some (.int .i64 N) := by rw [hb1.cell (by simp)]; exact cell_box w _ _ _ _ rfl
  have y1 : w1.cell? ⟨w.heap.size, 1, none⟩ = some (.int .i64 S) := by rw [hb1.cell (by simp)]; exact cell_box w _ _ _ _ rfl
  have y2 : w1.cell? ⟨w.heap.size, 2, none⟩ = some (.int .i64 R) := by rw [hb1.cell (by simp)]; exact cell_box w _ _ _ _ rfl
  have hbox : w.heap.size < w1.heap.size := by have := hb1.size; simp at this; omega
  have HB : Hid (Below w.heap.size w w1) := (box3_below w _ _ _).trans (hb1.mono (by simp))
  have HJ : Hid (OwnI w1 (.slice none 0 0) (oA (N - 1) sh R 0) w1) := ⟨World.ownsRow_nil _ _ _ _, Below.refl _ _⟩
  clear hb1
  go_wp2_with fail
  go_loopg [6, 7] m (fun gf s6 s7 wx => ∃ (v : Value) (c : Nat), v = s6 ∧ s7 = .int .i64 ((c : Int) + 1) ∧ c ≤ m ∧ m ≤ c + gf ∧ Hid (OwnI w1 v (oA (N - 1) sh R c) wx))
  case atStart => exact ⟨_, 0, rfl, rfl, by omega, by omega, HJ⟩
  case round =>
    clear HJ
    obtain ⟨v6, c, rfl, rfl, hc1, hgf, HJ⟩ := hrel
    have x0 : wr.cell? ⟨w.heap.size, 0, none⟩ = some (.int .i64 N) := by rw [HJ.out.2.cell (p := ⟨w.heap.size, _, none⟩) hbox]; exact y0
    by_cases hc : c < m
    · obtain ⟨g', rfl⟩ : ∃ g', gk = g' + 1 := ⟨gk - 1, by omega⟩
      have t0 : (c : Int) + 1 < N := by omega
      have HJ0 : Hid (OwnI w1 v6 (oA (N - 1) sh R c ++ oR (N - 1) sh (c + 1) 0) wr) := by
        have : oR (N - 1) sh (c + 1) 0 = [] := rfl
        rw [this, List.append_nil]; exact HJ.out
      obtain ⟨V0, hV0⟩ : ∃ V0 : World, V0 = wr := ⟨_, rfl⟩
      subst hV0
      clear HJ
      go_wp2_with fail
      go_loopg [6, 8] R (fun gf s6 s8 wx => ∃ (v : Value) (k : Nat), v = s6 ∧ s8 = .int .i64 k ∧ k ≤ R ∧ R ≤ k + gf ∧ Hid (OwnI w1 v (oA (N - 1) sh R c ++ oR (N - 1) sh (c + 1) k) wx))
      case atStart => exact ⟨_, 0, rfl, rfl, by omega, by omega, HJ0⟩
      case round =>
        clear HJ0 x0
        obtain ⟨v6, k, rfl, rfl, hk1, hkf, HJ⟩ := hrel
        have x0 : wr.cell? ⟨w.heap.size, 0, none⟩ = some (.int .i64 N) := by rw [HJ.out.2.cell (p := ⟨w.heap.size, _, none⟩) hbox]; exact y0
        have x2 : wr.cell? ⟨w.heap.size, 2, none⟩ = some (.int .i64 R) := by rw [HJ.out.2.cell (p := ⟨w.heap.size, _, none⟩) hbox]; exact y2
        by_cases hk : k < R
        · obtain ⟨g2, rfl⟩ : ∃ g2, gk = g2 + 1 := ⟨gk - 1, by omega⟩
          have t1 : (k : Int) < (R : Int) := by omega
          have q1 : IntKind.i64.wrap (sh + (k : Int)) = sh + (k : Int) := by rw [IntKind.wrap_i64]; omega
          have q2 : ((N - 1) == 0) = false := beq_eq_false_iff_ne.2 (by omega)
          have q3 : (sh + (k : Int)).tmod (N - 1) = (sh + (k : Int)) % (N - 1) := Int.tmod_eq_emod_of_nonneg (by omega)
          have q4 : 0 ≤ (sh + (k : Int)) % (N - 1) := Int.emod_nonneg _ (by omega)
          have q5 : (sh + (k : Int)) % (N - 1) < N - 1 := Int.emod_lt_of_pos _ (by omega)
          have q6 : IntKind.i64.wrap ((sh + (k : Int)) % (N - 1)) = (sh + (k : Int)) % (N - 1) := by rw [IntKind.wrap_i64]; omega
          have q7 : IntKind.i64.wrap (1 + (sh + (k : Int)) % (N - 1)) = 1 + (sh + (k : Int)) % (N - 1) := by rw [IntKind.wrap_i64]; omega
          by_cases ht : 1 + (sh + (k : Int)) % (N - 1) = ((c + 1 : Nat) : Int)
          · have e1 := oR_yes (N - 1) sh (c + 1) k ht
            have q8 : (1 + (sh + (k : Int)) % (N - 1) == (c : Int) + 1) = true := beq_iff_eq.2 (by rw [ht]; simp)
            have hlen := HL.out c k hc (by omega)
            obtain ⟨zs, hzs⟩ : ∃ zs, oA (N - 1) sh R c ++ oR (N - 1) sh (c + 1) k = zs := ⟨_, rfl⟩
            rw [hzs] at hlen
            have HE : Hid (oA (N - 1) sh R c ++ oR (N - 1) sh (c + 1) (k + 1) = zs ++ [(c : Int) + 1]) := by
              show _ = _
              rw [e1, ← List.append_assoc, hzs]; simp
            obtain ⟨hown, hbw⟩ := HJ.out
            rw [hzs] at hown
            clear e1 ht hzs HJ
            go_wp2_with (at_builtin; refine wpList_append_own _ rfl _ _ 30 rfl w1.heap.size 3 i0 (.int .i64 0) 1 8 Tryd.underlying30 hi hz0' hz1' hz2' rfl (by decide) _ zs.length _ rfl (hown.alloc _) ⟨_, 0, none⟩ 1 1 [.int .i64 ((c : Int) + 1)] rfl rfl (cell_one_at _ _ _ _ (by simp)) (fun x hx => by simp at hx; subst hx; rfl) (by unfold maxLen; omega) (by omega) (by have := hbw.size; simp; omega) ?_; intro v' w3 hown' hgrow3 hnil3)
            go_roundg g2
            case measure => omega
            case rel =>
              refine ⟨_, k + 1, rfl, by go_num, by omega, by omega, ?_⟩
              show OwnI w1 v' _ w3
              rw [HE.out]
              refine ⟨?_, ?_⟩
              · rw [List.map_append, List.length_append]; exact hown'
              · exact Below.grown (hbw.alloc hbw.size _) hgrow3 (by have := hbw.size; simp; omega) (fun j hj => by have := (hown.lt _ hj).1; omega)
          · have q8 : (1 + (sh + (k : Int)) % (N - 1) == (c : Int) + 1) = false := beq_eq_false_iff_ne.2 (fun e => ht (by rw [e]; simp))
            have HJ2 : Hid (OwnI w1 v6 (oA (N - 1) sh R c ++ oR (N - 1) sh (c + 1) (k + 1)) wr) := by rw [oR_no (N - 1) sh (c + 1) k ht]; exact HJ.out
            clear ht HJ
            go_wp2_with fail
            go_roundg g2
            case measure => omega
            case rel => exact ⟨_, k + 1, rfl, by go_num, by omega, by omega, HJ2⟩
        · have hend : k = R := by omega
          subst hend
          have t1 : ¬ (k : Int) < (k : Int) := by omega
          have HJ2 : Hid (OwnI w1 v6 (oA (N - 1) sh k (c + 1)) wr) := by rw [oA_step]; exact HJ.out
          clear HJ
          go_wp2_with fail
          go_roundg g'
          case measure => omega
          case rel => exact ⟨_, c + 1, rfl, by go_num, by omega, by omega, HJ2⟩
    · have hend : c = m := by omega
      subst hend
      have t0 : ¬ (c : Int) + 1 < N := by omega
      have HI : Hid (IntsL wr v6 ((ownL N sh R).mergeSort fun x y => decide (x ≤ y))) := by
        rw [← HS.out]
        refine HJ.out.ints ?_
        rw [HS.out, List.length_mergeSort, ownL_length]; omega
      have HB4 : Hid (Below w.heap.size w wr) := HB.out.trans (HJ.out.2.mono HB.out.size)
      clear HJ
      go_wp2_with fail
      go_ret2
      exact ⟨_, rfl, HI.out, HB4.out⟩
end Go.Proofs.YthfoijnjgdeaaaaDoor
