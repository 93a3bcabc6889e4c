/- The law ValueNumbers returns true. -/
import Derived.Test.YtbppnbfdlcnblaaDoorLives
namespace Go.Proofs.YtbppnbfdlcnblaaDoor
open Go.RowKit Go.Lib Go.Sort
set_option linter.unusedVariables false

set_option maxHeartbeats 1000000 in
set_option maxRecDepth 100000 in
theorem numbers_any (a b : Int) (ha : in64 a = true) (hb : in64 b = true) (w : World) (hT : Lib.Utf8Tabs 0 1 w) :
    Calls Tryd.prog 5 #[.int .i64 a, .int .i64 b] w fun e w' => e = .returned (.bool true) ∧ Below w.heap.size w w' := by
  have c1 := add_any a b ha hb
  have c2 := radd_any a b ha hb
  have c3 := sub_any a b ha hb
  have c4 := rsub_any a b ha hb
  have c5 := mul_any a b ha hb
  have c6 := rmul_any a b ha hb
  obtain ⟨x, hx⟩ : ∃ x, cut64 (a + b) = x := ⟨_, rfl⟩
  obtain ⟨e1, he1⟩ : ∃ x, ovr64 (a + b) = x := ⟨_, rfl⟩
  obtain ⟨y, hy⟩ : ∃ x, cut64 (a - b) = x := ⟨_, rfl⟩
  obtain ⟨e2, he2⟩ : ∃ x, ovr64 (a - b) = x := ⟨_, rfl⟩
  obtain ⟨z, hz⟩ : ∃ x, cut64 (a * b) = x := ⟨_, rfl⟩
  obtain ⟨e3, he3⟩ : ∃ x, ovr64 (a * b) = x := ⟨_, rfl⟩
  rw [hx, he1] at c1 c2
  rw [hy, he2] at c3 c4
  rw [hz, he3] at c5 c6
  have hx64 : in64 x = true := by
    rw [← hx]; unfold cut64
    split
    · assumption
    · decide
  have c7 := sub_any x b hx64 hb
  obtain ⟨back, hback⟩ : ∃ x', cut64 (x - b) = x' := ⟨_, rfl⟩
  obtain ⟨e4, he4⟩ : ∃ x', ovr64 (x - b) = x' := ⟨_, rfl⟩
  rw [hback, he4] at c7
  have C1 : Hid (∀ w, Calls Tryd.prog 24 #[.int .i64 a, .int .i64 b] w fun e w' => e = .returned (.tuple #[.int .i64 x, .int .i64 e1]) ∧ w' = w) := c1
  have C2 : Hid (∀ w, Calls Tryd.prog 25 #[.int .i64 a, .int .i64 b] w fun e w' => e = .returned (.tuple #[.int .i64 x, .int .i64 e1]) ∧ w' = w) := c2
  have C3 : Hid (∀ w, Calls Tryd.prog 26 #[.int .i64 a, .int .i64 b] w fun e w' => e = .returned (.tuple #[.int .i64 y, .int .i64 e2]) ∧ w' = w) := c3
  have C4 : Hid (∀ w, Calls Tryd.prog 27 #[.int .i64 a, .int .i64 b] w fun e w' => e = .returned (.tuple #[.int .i64 y, .int .i64 e2]) ∧ w' = w) := c4
  have C5 : Hid (∀ w, Calls Tryd.prog 28 #[.int .i64 a, .int .i64 b] w fun e w' => e = .returned (.tuple #[.int .i64 z, .int .i64 e3]) ∧ w' = w) := c5
  have C6 : Hid (∀ w, Calls Tryd.prog 29 #[.int .i64 a, .int .i64 b] w fun e w' => e = .returned (.tuple #[.int .i64 z, .int .i64 e3]) ∧ w' = w) := c6
  have C7 : Hid (∀ w, Calls Tryd.prog 26 #[.int .i64 x, .int .i64 b] w fun e w' => e = .returned (.tuple #[.int .i64 back, .int .i64 e4]) ∧ w' = w) := c7
  have HT : Hid (Lib.Utf8Tabs 0 1 w) := hT
  have t1 : (x != x) = false := by simp
  have t2 : (y != y) = false := by simp
  have t3 : (z != z) = false := by simp
  have t4 : (e1 != e1) = false := by simp
  have t5 : (e2 != e2) = false := by simp
  have t6 : (e3 != e3) = false := by simp
  have fin : (e1 != 0) = true ∨ ((e1 != 0) = false ∧ (back == a) = true ∧ (e4 == 0) = true) := by
    cases h : in64 (a + b)
    · left
      rw [← he1]; unfold ovr64; rw [h]; rfl
    · right
      have ex : x = a + b := by rw [← hx]; unfold cut64; rw [h]; rfl
      have eb : x - b = a := by omega
      rw [eb] at hback he4
      refine ⟨?_, ?_, ?_⟩
      · rw [← he1]; unfold ovr64; rw [h]; rfl
      · rw [← hback]; unfold cut64; rw [ha]; simp
      · rw [← he4]; unfold ovr64; rw [ha]; rfl
  clear c1 c2 c3 c4 c5 c6 c7 hx he1 hy he2 hz he3 hback he4 hT hx64
  have lv := lives_any w HT.out
  rcases fin with f1 | ⟨f1, f2, f3⟩
  · go_enter Tryd.func5, Tryd.ntmps5
    go_wp2_with fail
    refine (C1.out _).mono ?_
    rintro e w' ⟨rfl, rfl⟩
    go_wp2_with fail
    refine (C2.out _).mono ?_
    rintro e w' ⟨rfl, rfl⟩
    go_wp2_with fail
    refine (C3.out _).mono ?_
    rintro e w' ⟨rfl, rfl⟩
    go_wp2_with fail
    refine (C4.out _).mono ?_
    rintro e w' ⟨rfl, rfl⟩
    go_wp2_with fail
    refine (C5.out _).mono ?_
    rintro e w' ⟨rfl, rfl⟩
    go_wp2_with fail
    refine (C6.out _).mono ?_
    rintro e w' ⟨rfl, rfl⟩
    go_wp2_with fail
    refine lv.mono ?_
    rintro e w1 ⟨rfl, hb1⟩
    go_wp2_with fail
    refine (C7.out _).mono ?_
    rintro e w' ⟨rfl, rfl⟩
    go_wp2
    go_ret
    exact ⟨rfl, hb1⟩
  · go_enter Tryd.func5, Tryd.ntmps5
    go_wp2_with fail
    refine (C1.out _).mono ?_
    rintro e w' ⟨rfl, rfl⟩
    go_wp2_with fail
    refine (C2.out _).mono ?_
    rintro e w' ⟨rfl, rfl⟩
    go_wp2_with fail
    refine (C3.out _).mono ?_
    rintro e w' ⟨rfl, rfl⟩
    go_wp2_with fail
    refine (C4.out _).mono ?_
    rintro e w' ⟨rfl, rfl⟩
    go_wp2_with fail
    refine (C5.out _).mono ?_
    rintro e w' ⟨rfl, rfl⟩
    go_wp2_with fail
    refine (C6.out _).mono ?_
    rintro e w' ⟨rfl, rfl⟩
    go_wp2_with fail
    refine lv.mono ?_
    rintro e w1 ⟨rfl, hb1⟩
    go_wp2_with fail
    refine (C7.out _).mono ?_
    rintro e w' ⟨rfl, rfl⟩
    go_wp2
    go_ret
    exact ⟨rfl, hb1⟩
end Go.Proofs.YtbppnbfdlcnblaaDoor
