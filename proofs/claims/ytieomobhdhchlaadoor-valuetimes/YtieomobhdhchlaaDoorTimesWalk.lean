/- The law ValueTimes returns true. -/
import Derived.Test.YtieomobhdhchlaaDoorLives
namespace Go.Proofs.YtieomobhdhchlaaDoor
open Go.RowKit Go.Lib Go.Sort
set_option linter.unusedVariables false

theorem cut_in {a : Int} (h : in64 a = true) : cut64 a = a := by unfold cut64; rw [h]; rfl
theorem ovr_in {a : Int} (h : in64 a = true) : ovr64 a = 0 := by unfold ovr64; rw [h]; rfl

set_option maxHeartbeats 1000000 in
set_option maxRecDepth 100000 in
theorem times_any (a b : Int) (ha : in64 a = true) (hb : in64 b = true) (w : World) (hT : Lib.Utf8Tabs 0 1 w) :
    Calls Tryd.prog 3 #[.int .i64 a, .int .i64 b] w fun e w' => e = .returned (.bool true) ∧ Below w.heap.size w w' := by
  have c1 := mul_any a b ha hb
  have c2 := mul_any b a hb ha
  have c3 := mul_any a 1 ha (by decide)
  have c4 := mul_any a 0 ha (by decide)
  have c5 := add_any a b ha hb
  have c6 := add_any b a hb ha
  rw [Int.mul_comm b a] at c2
  rw [Int.mul_one, cut_in ha, ovr_in ha] at c3
  rw [Int.mul_zero, show cut64 0 = 0 by decide, show ovr64 0 = 0 by decide] at c4
  rw [Int.add_comm b a] at c6
  obtain ⟨x, hx⟩ : ∃ x, cut64 (a * b) = x := ⟨_, rfl⟩
  obtain ⟨e1, he1⟩ : ∃ x, ovr64 (a * b) = x := ⟨_, rfl⟩
  obtain ⟨y, hy⟩ : ∃ x, cut64 (a + b) = x := ⟨_, rfl⟩
  obtain ⟨e2, he2⟩ : ∃ x, ovr64 (a + b) = x := ⟨_, rfl⟩
  rw [hx, he1] at c1 c2
  rw [hy, he2] at c5 c6
  have C1 : Hid (∀ w, Calls Tryd.prog 8 #[.int .i64 a, .int .i64 b] w fun e w' => e = .returned (.tuple #[.int .i64 x, .int .i64 e1]) ∧ w' = w) := c1
  have C2 : Hid (∀ w, Calls Tryd.prog 8 #[.int .i64 b, .int .i64 a] w fun e w' => e = .returned (.tuple #[.int .i64 x, .int .i64 e1]) ∧ w' = w) := c2
  have C3 : Hid (∀ w, Calls Tryd.prog 8 #[.int .i64 a, .int .i64 1] w fun e w' => e = .returned (.tuple #[.int .i64 a, .int .i64 0]) ∧ w' = w) := c3
  have C4 : Hid (∀ w, Calls Tryd.prog 8 #[.int .i64 a, .int .i64 0] w fun e w' => e = .returned (.tuple #[.int .i64 0, .int .i64 0]) ∧ w' = w) := c4
  have C5 : Hid (∀ w, Calls Tryd.prog 9 #[.int .i64 a, .int .i64 b] w fun e w' => e = .returned (.tuple #[.int .i64 y, .int .i64 e2]) ∧ w' = w) := c5
  have C6 : Hid (∀ w, Calls Tryd.prog 9 #[.int .i64 b, .int .i64 a] w fun e w' => e = .returned (.tuple #[.int .i64 y, .int .i64 e2]) ∧ w' = w) := c6
  have lv := lives_any w hT
  have t1 : (x == x) = true := by simp
  have t2 : (e1 == e1) = true := by simp
  have t3 : (y == y) = true := by simp
  have t4 : (e2 == e2) = true := by simp
  have t5 : (a == a) = true := by simp
  clear c1 c2 c3 c4 c5 c6 hx he1 hy he2 hT
  go_enter Tryd.func3, Tryd.ntmps3
  go_wp2_with fail
  refine lv.mono ?_
  rintro e w1 ⟨rfl, hb1⟩
  go_wp2_with fail
  refine (C1.out _).mono ?_
  rintro e w' ⟨rfl, rfl⟩
  go_wp2_with fail
  refine (C2.out _).mono ?_
  rintro e w' ⟨rfl, rfl⟩
  go_wp2_with fail
  refine (C3.out _).mono ?_
  rintro e w' ⟨rfl, rfl⟩
  go_wp2_with fail
  refine (C4.out _).mono ?_
  rintro e w' ⟨rfl, rfl⟩
  go_wp2_with fail
  refine (C5.out _).mono ?_
  rintro e w' ⟨rfl, rfl⟩
  go_wp2_with fail
  refine (C6.out _).mono ?_
  rintro e w' ⟨rfl, rfl⟩
  go_wp2
  go_ret
  exact ⟨rfl, hb1⟩
end Go.Proofs.YtieomobhdhchlaaDoor
