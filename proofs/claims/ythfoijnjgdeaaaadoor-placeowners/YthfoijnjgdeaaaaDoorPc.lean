/- What Ints and lives answer. -/
import Derived.Test.YthfoijnjgdeaaaaDoorPb
namespace Go.Proofs.YthfoijnjgdeaaaaDoor
open Go.Shelf Go.RowKit Go.Lib Go.Sort
set_option linter.unusedVariables false
set_option linter.unusedSimpArgs false
attribute [local go_sem ↓] Go.wp_at_zero Go.wp_at_succ
def sameI : List Int → List Int → Bool
  | [], [] => true
  | x :: xs, y :: ys => x == y && sameI xs ys
  | _, _ => false
theorem sameI_iff : ∀ xs ys : List Int, sameI xs ys = true ↔ xs = ys
  | [], [] => by simp [sameI]
  | [], _ :: _ => by simp [sameI]
  | _ :: _, [] => by simp [sameI]
  | x :: xs, y :: ys => by
    have ih := sameI_iff xs ys
    simp [sameI, ih]
theorem sameI_len (xs ys : List Int) (h : xs.length ≠ ys.length) : sameI xs ys = false := by
  cases e : sameI xs ys
  · rfl
  · rw [(sameI_iff _ _).1 e] at h; exact absurd rfl h
theorem sameI_at (xs ys : List Int) (i : Nat) (hx : i < xs.length) (hy : i < ys.length) : sameI (xs.drop i) (ys.drop i) = (xs[i] == ys[i] && sameI (xs.drop (i + 1)) (ys.drop (i + 1))) := by
  rw [List.drop_eq_getElem_cons hx, List.drop_eq_getElem_cons hy]; rfl
set_option maxRecDepth 100000 in
set_option maxHeartbeats 4000000 in
theorem ints_any (v1 v2 : Value) (xs ys : List Int) (w : World) (h1 : IntsL w v1 xs) (h2 : IntsL w v2 ys) :
    Calls Tryd.prog 16 #[v1, v2] w fun e w' => e = .returned (.bool (sameI xs ys)) ∧ Below w.heap.size w w' := by
  obtain ⟨p, c, rfl, hl1, hp⟩ := h1
  obtain ⟨q, d, rfl, hl2, hq⟩ := h2
  have HP : Hid (0 < xs.length → ∃ b o, p = some ⟨b, o, none⟩ ∧ b < w.heap.size ∧ ∀ j (h : j < xs.length), w.cell? ⟨b, o + j, none⟩ = some (.int .i64 xs[j])) := hp
  have HQ : Hid (0 < ys.length → ∃ b o, q = some ⟨b, o, none⟩ ∧ b < w.heap.size ∧ ∀ j (h : j < ys.length), w.cell? ⟨b, o + j, none⟩ = some (.int .i64 ys[j])) := hq
  clear hp hq
  by_cases hlen : xs.length = ys.length
  · obtain ⟨T, hT⟩ : ∃ T, sameI xs ys = T := ⟨_, rfl⟩
    have HT : Hid (sameI xs ys = T) := hT
    have HL : Hid (xs.length = ys.length) := hlen
    have hne : ((xs.length : Int) != (ys.length : Int)) = false := by rw [hlen]; simp
    rw [hT]
    clear hT hlen
    go_enter Tryd.func16, Tryd.ntmps16
    go_wp2_with fail
    go_loopg [13] xs.length (fun gf s13 wx => ∃ i : Nat, s13 = .int .i64 i ∧ Below w.heap.size w wx ∧ i ≤ xs.length ∧ xs.length ≤ i + gf ∧ Hid (sameI (xs.drop i) (ys.drop i) = T))
    case atStart => exact ⟨0, rfl, Below.refl _ _, by omega, by omega, HT⟩
    case round =>
      clear HT
      obtain ⟨i, rfl, hbw, hi1, hgf, HT⟩ := hrel
      by_cases hi : i < xs.length
      · obtain ⟨g', rfl⟩ : ∃ g', gk = g' + 1 := ⟨gk - 1, by omega⟩
        have hiy : i < ys.length := by rw [← HL.out]; exact hi
        obtain ⟨b1, o1, rfl, hB1, hr1⟩ := HP.out (by omega)
        obtain ⟨b2, o2, rfl, hB2, hr2⟩ := HQ.out (by omega)
        have x0 := hr1 i hi
        have y0 := hr2 i hiy
        rw [← hbw.cell (p := ⟨b1, _, none⟩) hB1] at x0
        rw [← hbw.cell (p := ⟨b2, _, none⟩) hB2] at y0
        have hat := sameI_at xs ys i hi hiy
        rw [HT.out] at hat
        obtain ⟨x, hx⟩ : ∃ x, xs[i] = x := ⟨_, rfl⟩
        obtain ⟨y, hy⟩ : ∃ y, ys[i] = y := ⟨_, rfl⟩
        rw [hx] at x0 hat
        rw [hy] at y0 hat
        have hz0 : (0 : Int) ≤ (i : Int) := by omega
        have hz1 : (i : Int) < (xs.length : Int) := by omega
        have hz2 : (i : Int) < (ys.length : Int) := by omega
        clear hr1 hr2 HP HQ HT hx hy
        by_cases hs : x = y
        · have HA : Hid (sameI (xs.drop (i + 1)) (ys.drop (i + 1)) = T) := (show _ = _ by rw [hs] at hat; simpa using hat.symm)
          have hq : (x != y) = false := by rw [hs]; simp
          clear hat hs
          go_wp2_with fail
          go_quiet (fail)
          go_wp2_with fail
          go_roundg g'
          case measure => omega
          case rel => exact ⟨i + 1, by go_num, below_drewN hbw _, by omega, by omega, HA⟩
        · have HA : Hid (T = false) := (show _ = _ by rw [beq_eq_false_iff_ne.2 hs] at hat; simpa using hat)
          have hq : (x != y) = true := bne_iff_ne.2 hs
          clear hat hs
          go_wp2_with fail
          go_quiet (fail)
          go_wp2_with fail
          go_ret
          exact ⟨by rw [HA.out]; rfl, below_drewN hbw _⟩
      · have hend : i = xs.length := by omega
        have HA : Hid (T = true) := by
          show _ = _
          rw [← HT.out, hend, List.drop_length, HL.out, List.drop_length]; rfl
        subst hend
        clear HP HQ HT HL
        go_wp2_with fail
        go_ret
        exact ⟨by rw [HA.out]; rfl, hbw⟩
  · have hne : ((xs.length : Int) != (ys.length : Int)) = true := by rw [bne_iff_ne]; omega
    rw [sameI_len xs ys hlen]
    clear HP HQ hlen
    go_enter Tryd.func16, Tryd.ntmps16
    go_wp2_with fail
    go_ret
    exact ⟨rfl, Below.refl _ _⟩
theorem own_two : (ownL 4 2 2).mergeSort (fun x y => decide (x ≤ y)) = [1, 3] := by
  rw [show ownL 4 2 2 = [3, 1] by decide]
  simp [List.mergeSort, List.MergeSort.Internal.splitInTwo, List.merge]
theorem ints_two (W : World) (a b : Int) : IntsL (W.alloc (.cells #[.int .i64 a, .int .i64 b] 3)) (.slice (some ⟨W.heap.size, 0, none⟩) 2 2) [a, b] := by
  refine ⟨_, 2, rfl, by simp, fun _ => ⟨W.heap.size, 0, rfl, by simp, fun j hj => ?_⟩⟩
  match j, hj with
  | 0, _ => exact cell_box W _ _ _ _ rfl
  | 1, _ => exact cell_box W _ _ _ _ rfl
set_option maxRecDepth 100000 in
set_option maxHeartbeats 4000000 in
theorem layLives_any (w : World) : Calls Tryd.prog 15 #[] w fun e w' => e = .returned (.bool true) ∧ Below w.heap.size w w' := by
  have C1 : Hid (∀ W, Calls Tryd.prog 9 #[.agg #[.int .i64 4, .int .i64 3, .int .i64 2], .int .i64 2] W fun e w' => ∃ u, e = .returned (.tuple #[u, .int .i64 0]) ∧ IntsL w' u [1, 3] ∧ Below W.heap.size W w') := fun W => by
    have := owners_good 4 3 2 2 W (by decide) (by decide)
    rw [own_two] at this
    exact this
  have C2 : Hid (∀ W, Calls Tryd.prog 9 #[.agg #[.int .i64 4, .int .i64 3, .int .i64 2], .int .i64 3] W fun e w' => e = .returned (.tuple #[.slice none 0 0, .int .i64 2]) ∧ Below W.heap.size W w') := fun W => owners_bad 4 3 2 3 W (by decide)
  have C3 : Hid (∀ W, Calls Tryd.prog 18 #[.agg #[.int .i64 0, .int .i64 0, .int .i64 0]] W fun e w' => e = .returned (.int .i64 2) ∧ Below W.heap.size W w') := fun W => layCheck_any 0 0 0 W
  go_enter Tryd.func15, Tryd.ntmps15
  go_wp2_with fail
  refine (C1.out _).mono ?_
  rintro e w1 ⟨u, rfl, hI, hb1⟩
  have HI : Hid (IntsL w1 u [1, 3]) := hI
  have HB1 : Hid (Below w.heap.size w w1) := (box3_below w _ _ _).trans (hb1.mono (by simp))
  have y0 : w1.cell? ⟨w.heap.size, 0, none⟩ = some (.int .i64 4) := by rw [hb1.cell (by simp)]; exact cell_box w _ _ _ _ rfl
  have y1 : w1.cell? ⟨w.heap.size, 1, none⟩ = some (.int .i64 3) := by rw [hb1.cell (by simp)]; exact cell_box w _ _ _ _ rfl
  have y2 : w1.cell? ⟨w.heap.size, 2, none⟩ = some (.int .i64 2) := by rw [hb1.cell (by simp)]; exact cell_box w _ _ _ _ rfl
  obtain ⟨pu, cu, rfl, _⟩ := hI
  clear hb1
  go_wp2_with fail
  refine (C2.out _).mono ?_
  rintro e w2 ⟨rfl, hb2⟩
  have HB2 : Hid (Below w1.heap.size w1 w2) := hb2
  clear hb2 y0 y1 y2
  go_wp2_with fail
  have ci := ints_any _ (.slice (some ⟨w2.heap.size, 0, none⟩) 2 2) [1, 3] [1, 3] (w2.alloc (.cells #[.int .i64 1, .int .i64 3] 3)) ((HI.out.below HB2.out).below ((Below.refl _ _).alloc (Nat.le_refl _) _)) (ints_two w2 1 3)
  rw [(sameI_iff _ _).2 rfl] at ci
  refine ci.mono ?_
  rintro e w3 ⟨rfl, hb3⟩
  have HB3 : Hid (Below w.heap.size w w3) := by
    have h2 := HB1.out.trans (HB2.out.mono HB1.out.size)
    have h3 : Below w2.heap.size w2 w3 := ((Below.refl w2.heap.size w2).alloc (Nat.le_refl _) _).trans (hb3.mono (by simp))
    exact h2.trans (h3.mono h2.size)
  clear ci hb3
  go_wp2_with fail
  refine (C3.out _).mono ?_
  rintro e w4 ⟨rfl, hb4⟩
  have HB4 : Hid (Below w.heap.size w w4) := HB3.out.trans (hb4.mono HB3.out.size)
  clear hb4
  go_wp2_with fail
  go_ret
  exact ⟨rfl, HB4.out⟩
end Go.Proofs.YthfoijnjgdeaaaaDoor
