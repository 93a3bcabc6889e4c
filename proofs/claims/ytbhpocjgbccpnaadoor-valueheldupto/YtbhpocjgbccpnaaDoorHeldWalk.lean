/- The law ValueHeld returns true, of any two values whose texts are not too long. -/
import Derived.Test.YtbhpocjgbccpnaaDoorRa
import Derived.Test.YtbhpocjgbccpnaaDoorRc
import Derived.Test.YtbhpocjgbccpnaaDoorRd
import Derived.Test.YtbhpocjgbccpnaaDoorOrderWalk
namespace Go.Proofs.YtbhpocjgbccpnaaDoor
open Go.RowKit Go.Lib Go.Sort
set_option linter.unusedVariables false
attribute [local go_sem ↓] Go.wp_at_zero Go.wp_at_succ

theorem below_iter (w : World) (s : ByteArray) (pos : Nat) : Below w.heap.size w (w.iter s pos) := (Below.refl _ _).alloc (Nat.le_refl _) _
set_option maxHeartbeats 16000000 in
set_option maxRecDepth 100000 in
theorem held_core (xk yk : Int) (xb yb : Bool) (xn yn : Int) (xs ys : ByteArray) (w : World) (hT : Lib.Utf8Tabs 0 1 w) (hxk : 0 ≤ xk ∧ xk ≤ 255) (hxs : xs.size ≤ 1048576) (hys : ys.size ≤ 1048576) :
    Calls Tryd.prog 3 #[.agg #[.int .u8 xk, .bool xb, .int .i64 xn, .string xs], .agg #[.int .u8 yk, .bool yb, .int .i64 yn, .string ys]] w fun e w' => e = .returned (.bool true) ∧ Below w.heap.size w w' := by
  obtain ⟨W0, hW0⟩ : ∃ W0, (w.alloc (.cells #[.int .u8 xk, .bool xb, .int .i64 xn, .string xs] 24)).alloc (.cells #[.int .u8 yk, .bool yb, .int .i64 yn, .string ys] 24) = W0 := ⟨_, rfl⟩
  have hb0 : Below w.heap.size w W0 := by rw [← hW0]; exact below_two _ _
  have bx : W0.heap[w.heap.size]? = some (boxO xk xb xn xs) := by rw [← hW0]; simp only [push_at, size_at]; rw [if_neg (by omega)]; simp [boxO]
  have bY : W0.heap[w.heap.size + 1]? = some (boxO yk yb yn ys) := by rw [← hW0]; simp only [push_at, size_at]; simp [boxO]
  have hz : W0.heap.size = w.heap.size + 2 := by rw [← hW0, size_at, size_at]
  obtain ⟨x0, x1, x2, x3⟩ := box_cells bx
  obtain ⟨y0, y1, y2, y3⟩ := box_cells bY
  have px0 : ∀ p : Later W0.heap.size W0, p.w.cell? ⟨w.heap.size, 0, none⟩ = some (.int .u8 xk) := fun p => by rw [p.h.cell (by simp; omega)]; exact x0
  have px1 : ∀ p : Later W0.heap.size W0, p.w.cell? ⟨w.heap.size, 1, none⟩ = some (.bool xb) := fun p => by rw [p.h.cell (by simp; omega)]; exact x1
  have px2 : ∀ p : Later W0.heap.size W0, p.w.cell? ⟨w.heap.size, 2, none⟩ = some (.int .i64 xn) := fun p => by rw [p.h.cell (by simp; omega)]; exact x2
  have px3 : ∀ p : Later W0.heap.size W0, p.w.cell? ⟨w.heap.size, 3, none⟩ = some (.string xs) := fun p => by rw [p.h.cell (by simp; omega)]; exact x3
  have py0 : ∀ p : Later W0.heap.size W0, p.w.cell? ⟨w.heap.size + 1, 0, none⟩ = some (.int .u8 yk) := fun p => by rw [p.h.cell (by simp; omega)]; exact y0
  have py1 : ∀ p : Later W0.heap.size W0, p.w.cell? ⟨w.heap.size + 1, 1, none⟩ = some (.bool yb) := fun p => by rw [p.h.cell (by simp; omega)]; exact y1
  have py2 : ∀ p : Later W0.heap.size W0, p.w.cell? ⟨w.heap.size + 1, 2, none⟩ = some (.int .i64 yn) := fun p => by rw [p.h.cell (by simp; omega)]; exact y2
  have py3 : ∀ p : Later W0.heap.size W0, p.w.cell? ⟨w.heap.size + 1, 3, none⟩ = some (.string ys) := fun p => by rw [p.h.cell (by simp; omega)]; exact y3
  have tb : ∀ p : Later W0.heap.size W0, Lib.Utf8Tabs 0 1 p.w := fun p => Utf8Tabs_below hT (hb0.trans (p.h.mono hb0.size))
  have LV : Hid (∀ p : Later W0.heap.size W0, Calls Tryd.prog 9 #[] p.w fun e w' => e = .returned (.bool true) ∧ Below p.w.heap.size p.w w') := fun p => lives_any p.w (tb p)
  obtain ⟨c, hc⟩ : ∃ c, chkV ⟨xk, xb, xn, xs⟩ = c := ⟨_, rfl⟩
  obtain ⟨m, hm⟩ : ∃ c, cmpV ⟨xk, xb, xn, xs⟩ ⟨yk, yb, yn, ys⟩ = c := ⟨_, rfl⟩
  obtain ⟨h, hh⟩ : ∃ c, hashV ⟨xk, xb, xn, xs⟩ = c := ⟨_, rfl⟩
  obtain ⟨r, hr⟩ : ∃ c, Lib.runeCount xs = c := ⟨_, rfl⟩
  have K1 : Hid (∀ p : Later W0.heap.size W0, Calls Tryd.prog 10 #[.agg #[.int .u8 xk, .bool xb, .int .i64 xn, .string xs]] p.w fun e w' => e = .returned (.int .i64 c) ∧ Below p.w.heap.size p.w w') := fun p => by
    rw [← hc]; exact check_any ⟨xk, xb, xn, xs⟩ p.w (show xs.size ≤ _ by omega) (tb p)
  have K2 : Hid (∀ p : Later W0.heap.size W0, Calls Tryd.prog 11 #[.agg #[.int .u8 xk, .bool xb, .int .i64 xn, .string xs]] p.w fun e w' => e = .returned (.int .i64 c) ∧ Below p.w.heap.size p.w w') := fun p => by
    rw [← hc]; exact checkRef_any xk xb xn xs p.w hxs
  have M1 : Hid (∀ p : Later W0.heap.size W0, Calls Tryd.prog 12 #[.agg #[.int .u8 xk, .bool xb, .int .i64 xn, .string xs], .agg #[.int .u8 yk, .bool yb, .int .i64 yn, .string ys]] p.w fun e w' => e = .returned (.int .i64 m) ∧ Below p.w.heap.size p.w w') := fun p => by
    rw [← hm]; exact compare_core xk yk xb yb xn yn xs ys p.w (tb p)
  have M2 : Hid (∀ p : Later W0.heap.size W0, Calls Tryd.prog 13 #[.agg #[.int .u8 xk, .bool xb, .int .i64 xn, .string xs], .agg #[.int .u8 yk, .bool yb, .int .i64 yn, .string ys]] p.w fun e w' => e = .returned (.int .i64 m) ∧ Below p.w.heap.size p.w w') := fun p => by
    rw [← hm]; exact compareRef_any xk yk xb yb xn yn xs ys p.w hxs hys
  have H1 : Hid (∀ p : Later W0.heap.size W0, Calls Tryd.prog 14 #[.agg #[.int .u8 xk, .bool xb, .int .i64 xn, .string xs]] p.w fun e w' => e = .returned (.int .u64 h) ∧ Below p.w.heap.size p.w w') := fun p => by
    rw [← hh]; exact hash_core xk xb xn xs p.w hxk.1 hxk.2 (by omega)
  have H2 : Hid (∀ p : Later W0.heap.size W0, Calls Tryd.prog 15 #[.agg #[.int .u8 xk, .bool xb, .int .i64 xn, .string xs]] p.w fun e w' => e = .returned (.int .u64 h) ∧ Below p.w.heap.size p.w w') := fun p => by
    rw [← hh]; exact hashRef_any xk xb xn xs p.w hxk.1 hxk.2 hxs
  have R1 : Hid (∀ p : Later W0.heap.size W0, Calls Tryd.prog 16 #[.string xs] p.w fun e w' => e = .returned (.int .i64 r) ∧ Below p.w.heap.size p.w w') := fun p => by
    rw [← hr]
    refine (runes_any xs p.w (by omega)).mono ?_
    rintro e w' ⟨rfl, pos, rfl⟩
    exact ⟨rfl, below_iter _ _ _⟩
  have R2 : Hid (∀ p : Later W0.heap.size W0, Calls Tryd.prog 17 #[.string xs] p.w fun e w' => e = .returned (.int .i64 r) ∧ Below p.w.heap.size p.w w') := fun p => by
    rw [← hr]; exact runesCount_any xs p.w hxs
  have HB0 : Hid (Below w.heap.size w W0) := hb0
  have HW0 : Hid ((w.alloc (.cells #[.int .u8 xk, .bool xb, .int .i64 xn, .string xs] 24)).alloc (.cells #[.int .u8 yk, .bool yb, .int .i64 yn, .string ys] 24) = W0) := hW0
  haveI : Inhabited (Later W0.heap.size W0) := ⟨⟨W0, Below.refl _ _⟩⟩
  clear hT hxk hxs hys hW0 hb0 bx bY hz x0 x1 x2 x3 y0 y1 y2 y3 tb hc hm hh hr
  go_enter Tryd.func3, Tryd.ntmps3
  go_wp2_with fail
  rw [HW0.out]
  clear HW0
  refine wp_region_later mixedOn (by kernel_rfl) ?_
  repeat (go_big_quiet_step ((first
    | (go_at_call 9; exact calls_later (LV.out _))
    | (go_at_call 10; exact calls_later (K1.out _))
    | (go_at_call 11; exact calls_later (K2.out _))
    | (go_at_call 12; exact calls_later (M1.out _))
    | (go_at_call 13; exact calls_later (M2.out _))
    | (go_at_call 14; exact calls_later (H1.out _))
    | (go_at_call 15; exact calls_later (H2.out _))
    | (go_at_call 16; exact calls_later (R1.out _))
    | (go_at_call 17; exact calls_later (R2.out _)))))
  refine wpQuiet_nil ?_
  intro _ hw'
  obtain ⟨⟨wq, hwq⟩, hw''⟩ := hw'
  subst hw''
  go_wp2_with fail
  go_ret
  exact ⟨rfl, HB0.out.trans (hwq.mono HB0.out.size)⟩
end Go.Proofs.YtbhpocjgbccpnaaDoor
