/- What the reference's Owners answers. -/
import Derived.Test.YthfoijnjgdeaaaaDoorPm
namespace Go.Proofs.YthfoijnjgdeaaaaDoor
open Go.Shelf Go.RowKit Go.Lib Go.Sort
set_option linter.unusedVariables false
set_option linter.unusedSimpArgs false
attribute [local go_sem ↓] Go.wp_at_zero Go.wp_at_succ
/-- The owners as the reference makes them. -/
def oR (M sh : Int) (c k : Nat) : List Int := ((List.range k).filter fun (r : Nat) => decide (1 + (sh + (r : Int)) % M = (c : Int))).map fun _ => (c : Int)
def oA (M sh : Int) (R c : Nat) : List Int := (List.range c).flatMap fun j => oR M sh (j + 1) R
theorem oR_len (M sh : Int) (c k : Nat) : (oR M sh c k).length ≤ k := by
  unfold oR
  rw [List.length_map]
  exact Nat.le_trans (List.length_filter_le _ _) (by simp)
theorem oR_yes (M sh : Int) (c k : Nat) (h : 1 + (sh + (k : Int)) % M = (c : Int)) : oR M sh c (k + 1) = oR M sh c k ++ [(c : Int)] := by
  unfold oR
  rw [List.range_succ, List.filter_append, List.map_append]
  simp [h]
theorem oR_no (M sh : Int) (c k : Nat) (h : ¬ 1 + (sh + (k : Int)) % M = (c : Int)) : oR M sh c (k + 1) = oR M sh c k := by
  unfold oR
  rw [List.range_succ, List.filter_append, List.map_append]
  simp [h]
theorem oA_step (M sh : Int) (R c : Nat) : oA M sh R (c + 1) = oA M sh R c ++ oR M sh (c + 1) R := by
  unfold oA
  rw [List.range_succ, List.flatMap_append]
  simp
theorem oA_len (M sh : Int) (R : Nat) : ∀ c, (oA M sh R c).length ≤ c * R
  | 0 => by simp [oA]
  | c + 1 => by
    rw [oA_step, List.length_append, Nat.succ_mul]
    exact Nat.add_le_add (oA_len M sh R c) (oR_len _ _ _ _)
theorem oA_all : ∀ m : Fin 8, ∀ R : Fin 8, ∀ sh : Fin 8, R.1 ≤ m.1 → (oA (m.1 : Int) (sh.1 : Int) R.1 m.1).isPerm (ownL ((m.1 : Int) + 1) (sh.1 : Int) R.1) = true ∧ (oA (m.1 : Int) (sh.1 : Int) R.1 m.1).Pairwise (fun x y => decide (x ≤ y) = true) := by decide +kernel
theorem oA_sorted (N : Int) (S : Int) (R : Nat) (sh : Int) (m : Nat) (hN : N = (m : Int) + 1) (h0 : layE N S R = 0) (hr : 0 ≤ sh ∧ sh ≤ S - 1) : oA (N - 1) sh R m = (ownL N sh R).mergeSort fun x y => decide (x ≤ y) := by
  obtain ⟨k1, k2, k3, k4, k5, k6⟩ := layE_zero.1 h0
  obtain ⟨s, rfl⟩ : ∃ s : Nat, sh = (s : Int) := ⟨sh.toNat, by omega⟩
  have h := oA_all ⟨m, by omega⟩ ⟨R, by omega⟩ ⟨s, by omega⟩ (by show R ≤ m; omega)
  simp only at h
  have e1 : N - 1 = (m : Int) := by omega
  rw [e1]
  subst hN
  refine List.Perm.eq_of_pairwise (le := fun x y => decide (x ≤ y) = true) (fun a b _ _ h1 h2 => by simp only [decide_eq_true_eq] at h1 h2; omega) h.2 (List.pairwise_mergeSort (fun a b c h1 h2 => by simp only [decide_eq_true_eq] at h1 h2 ⊢; omega) (fun a b => by simp; omega) _) ((List.isPerm_iff.1 h.1).trans (List.mergeSort_perm _ _).symm)
/-- Owners that are being put together. -/
def OwnI (w1 : World) (v : Value) (zs : List Int) (wx : World) : Prop := wx.ownsRow w1.heap.size 3 1 v zs.length (zs.map fun z => .int .i64 z) ∧ Below w1.heap.size w1 wx
theorem OwnI.ints {w1 wx : World} {v : Value} {zs : List Int} (h : OwnI w1 v zs wx) (hn : zs.length ≤ 9223372036854775807) : IntsL wx v zs := by
  obtain ⟨⟨hl, ⟨rfl, h0⟩ | ⟨g, cap, cur, rfl, hbg, hg, hnc, hcm, hcs, htake⟩⟩, hb⟩ := h
  · exact ⟨none, 0, by rw [h0], hn, fun h => by omega⟩
  · refine ⟨_, cap, rfl, hn, fun _ => ⟨g, 0, rfl, (Array.getElem?_eq_some_iff.1 hg).1, fun j hj => ?_⟩⟩
    have h1 : (zs.map fun z => Value.int .i64 z)[j]? = some (.int .i64 zs[j]) := by simp [hj]
    rw [← htake] at h1
    have := List.getElem?_take (l := cur.toList) (i := zs.length * 1) (j := j)
    rw [h1] at this
    rw [Nat.zero_add]
    split at this
    · simp only [World.cell?, hg]
      simpa using this.symm
    · cases this
set_option maxRecDepth 100000 in
set_option maxHeartbeats 4000000 in
theorem refOwners_bad (N S R sh : Int) (w : World) (h : ownE N S R sh ≠ 0) :
    Calls Tryd.prog 10 #[.agg #[.int .i64 N, .int .i64 S, .int .i64 R], .int .i64 sh] w fun e w' => e = .returned (.tuple #[.slice none 0 0, .int .i64 2]) ∧ Below w.heap.size w w' := by
  by_cases h0 : layE N S R = 0
  · have C1 : Hid (∀ W, Calls Tryd.prog 19 #[.agg #[.int .i64 N, .int .i64 S, .int .i64 R]] W fun e w' => e = .returned (.int .i64 0) ∧ Below W.heap.size W w') := fun W => by rw [← h0]; exact refLay_any N S R W
    have hr : ¬ (0 ≤ sh ∧ sh ≤ S - 1) := fun hr => h (by unfold ownE; rw [if_pos h0, if_pos hr])
    clear h h0
    by_cases hs : sh < 0
    · clear hr
      go_enter Tryd.func10, Tryd.ntmps10
      go_wp2_with fail
      refine (C1.out _).mono ?_
      rintro e w1 ⟨rfl, hb1⟩
      have HB : Hid (Below w.heap.size w w1) := (box3_below w _ _ _).trans (hb1.mono (by simp))
      clear hb1
      go_wp2_with fail
      go_ret2
      exact ⟨rfl, HB.out⟩
    · have hS : S ≤ sh := by omega
      clear hr
      go_enter Tryd.func10, Tryd.ntmps10
      go_wp2_with fail
      refine (C1.out _).mono ?_
      rintro e w1 ⟨rfl, hb1⟩
      have y1 : w1.cell? ⟨w.heap.size, 1, none⟩ = some (.int .i64 S) := by rw [hb1.cell (by simp)]; exact cell_box w _ _ _ _ rfl
      have HB : Hid (Below w.heap.size w w1) := (box3_below w _ _ _).trans (hb1.mono (by simp))
      clear hb1
      go_wp2_with fail
      go_ret2
      exact ⟨rfl, HB.out⟩
  · have C1 : Hid (∀ W, Calls Tryd.prog 19 #[.agg #[.int .i64 N, .int .i64 S, .int .i64 R]] W fun e w' => e = .returned (.int .i64 2) ∧ Below W.heap.size W w') := fun W => by rw [← layE_two h0]; exact refLay_any N S R W
    clear h h0
    go_enter Tryd.func10, Tryd.ntmps10
    go_wp2_with fail
    refine (C1.out _).mono ?_
    rintro e w1 ⟨rfl, hb1⟩
    have HB : Hid (Below w.heap.size w w1) := (box3_below w _ _ _).trans (hb1.mono (by simp))
    clear hb1
    go_wp2_with fail
    go_ret2
    exact ⟨rfl, HB.out⟩
end Go.Proofs.YthfoijnjgdeaaaaDoor
