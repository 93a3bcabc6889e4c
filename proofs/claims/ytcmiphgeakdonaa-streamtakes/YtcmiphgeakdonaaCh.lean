/- Messages held against each other: lists and parts that are empty. -/
import Derived.Test.YtcmiphgeakdonaaCg
namespace Go.Proofs.Ytcmiphgeakdonaa
open Go.Shelf Go.RowKit Go.Lib Go.Sort
set_option linter.unusedVariables false
set_option linter.unusedSimpArgs false
attribute [local go_sem ↓] Go.wp_at_zero Go.wp_at_succ
set_option maxRecDepth 100000 in
theorem nil_29 (w : World) : Calls Try.prog 29 #[.slice none 0 0, .slice none 0 0] w fun e w' => e = .returned (.bool true) ∧ w' = w := by
  go_enter Try.func29, Try.ntmps29
  go_wp2_with fail
  go_loopg [13] 0 (fun gf s wx => s = .int .i64 0 ∧ wx = w)
  case atStart => exact ⟨rfl, rfl⟩
  case round =>
    obtain ⟨rfl, rfl⟩ := hrel
    go_wp2_with fail
    go_ret
    exact ⟨rfl, rfl⟩
set_option maxRecDepth 100000 in
theorem nil_33 (w : World) : Calls Try.prog 33 #[.slice none 0 0, .slice none 0 0] w fun e w' => e = .returned (.bool true) ∧ w' = w := by
  go_enter Try.func33, Try.ntmps33
  go_wp2_with fail
  go_loopg [13] 0 (fun gf s wx => s = .int .i64 0 ∧ wx = w)
  case atStart => exact ⟨rfl, rfl⟩
  case round =>
    obtain ⟨rfl, rfl⟩ := hrel
    go_wp2_with fail
    go_ret
    exact ⟨rfl, rfl⟩
set_option maxRecDepth 100000 in
theorem nil_48 (w : World) : Calls Try.prog 48 #[.slice none 0 0, .slice none 0 0] w fun e w' => e = .returned (.bool true) ∧ w' = w := by
  go_enter Try.func48, Try.ntmps48
  go_wp2_with fail
  go_loopg [13] 0 (fun gf s wx => s = .int .i64 0 ∧ wx = w)
  case atStart => exact ⟨rfl, rfl⟩
  case round =>
    obtain ⟨rfl, rfl⟩ := hrel
    go_wp2_with fail
    go_ret
    exact ⟨rfl, rfl⟩
set_option maxRecDepth 100000 in
theorem nil_49 (w : World) : Calls Try.prog 49 #[.slice none 0 0, .slice none 0 0] w fun e w' => e = .returned (.bool true) ∧ w' = w := by
  go_enter Try.func49, Try.ntmps49
  go_wp2_with fail
  go_loopg [13] 0 (fun gf s wx => s = .int .i64 0 ∧ wx = w)
  case atStart => exact ⟨rfl, rfl⟩
  case round =>
    obtain ⟨rfl, rfl⟩ := hrel
    go_wp2_with fail
    go_ret
    exact ⟨rfl, rfl⟩
set_option maxRecDepth 100000 in
theorem nil_51 (w : World) : Calls Try.prog 51 #[.slice none 0 0, .slice none 0 0] w fun e w' => e = .returned (.bool true) ∧ w' = w := by
  go_enter Try.func51, Try.ntmps51
  go_wp2_with fail
  go_loopg [13] 0 (fun gf s wx => s = .int .i64 0 ∧ wx = w)
  case atStart => exact ⟨rfl, rfl⟩
  case round =>
    obtain ⟨rfl, rfl⟩ := hrel
    go_wp2_with fail
    go_ret
    exact ⟨rfl, rfl⟩
set_option maxRecDepth 100000 in
theorem nil_28 (w : World) : Calls Try.prog 28 #[.slice none 0 0, .slice none 0 0] w fun e w' => e = .returned (.bool true) ∧ w' = w := by
  go_enter Try.func28, Try.ntmps28
  go_wp2_with fail
  go_loopg [13] 0 (fun gf s wx => s = .int .i64 0 ∧ wx = w)
  case atStart => exact ⟨rfl, rfl⟩
  case round =>
    obtain ⟨rfl, rfl⟩ := hrel
    go_wp2_with fail
    go_ret
    exact ⟨rfl, rfl⟩
theorem eql_ver (w : World) : (binOp .eql 52 (.agg #[.int .u64 0, .int .u64 0]) (.agg #[.int .u64 0, .int .u64 0])).run Try.prog w = .ok (.bool true) w := by
  have hS : Try.prog.underlying 52 = some (.struct (Try.prog.fieldsOf 52)) := by kernel_rfl
  have hp : Try.prog.stoodInHeld 52 = false := by kernel_rfl
  have u9 := Try.underlying22; have a9 := Try.isAgg22; have z9 := Try.sizeOf22
  rw [run_eql_struct, show (10000 : Nat) = 9999 + 1 from rfl, run_equalIn_struct w 9999 52 _ _ hS hp]
  simp only [Program.fieldsOf, Try.underlying52]
  clear hS hp
  go_simp
set_option maxRecDepth 100000 in
set_option maxHeartbeats 4000000 in
theorem zero_src (w : World) : Calls Try.prog 50 #[.agg #[.int .u8 0, .string { data := #[] }, .int .u64 0, .int .u64 0, .int .i64 0, .slice none 0 0], .agg #[.int .u8 0, .string { data := #[] }, .int .u64 0, .int .u64 0, .int .i64 0, .slice none 0 0]] w fun e w' => e = .returned (.bool true) ∧ Below w.heap.size w w' := by
  obtain ⟨W0, hW0, hb0, hs0, g0, g1⟩ := two_boxes2 w #[.int .u8 0, .string { data := #[] }, .int .u64 0, .int .u64 0, .int .i64 0, .slice none 0 0] #[.int .u8 0, .string { data := #[] }, .int .u64 0, .int .u64 0, .int .i64 0, .slice none 0 0] 54 54
  have HV : Hid (∀ V, Below W0.heap.size W0 V → V.heap[w.heap.size]? = some (.cells #[.int .u8 0, .string { data := #[] }, .int .u64 0, .int .u64 0, .int .i64 0, .slice none 0 0] 54 (0, 0)) ∧ V.heap[w.heap.size + 1]? = some (.cells #[.int .u8 0, .string { data := #[] }, .int .u64 0, .int .u64 0, .int .i64 0, .slice none 0 0] 54 (0, 0)) ∧ Below w.heap.size w V) := fun V hb => ⟨by rw [hb.block _ (by omega)]; exact g0, by rw [hb.block _ (by omega)]; exact g1, hb0.trans (hb.mono hb0.size)⟩
  have EV := eql_ver
  have a0 := cell_of_row (W := W0) (k := 0) (v := .int .u8 0) g0 rfl
  have b0 := cell_of_row (W := W0) (k := 0) (v := .int .u8 0) g1 rfl
  have a1 := cell_of_row (W := W0) (k := 1) (v := .string { data := #[] }) g0 rfl
  have b1 := cell_of_row (W := W0) (k := 1) (v := .string { data := #[] }) g1 rfl
  have a2 := cell_of_row (W := W0) (k := 2) (v := .int .u64 0) g0 rfl
  have b2 := cell_of_row (W := W0) (k := 2) (v := .int .u64 0) g1 rfl
  have a3 := cell_of_row (W := W0) (k := 3) (v := .int .u64 0) g0 rfl
  have b3 := cell_of_row (W := W0) (k := 3) (v := .int .u64 0) g1 rfl
  have a4 := cell_of_row (W := W0) (k := 4) (v := .int .i64 0) g0 rfl
  have b4 := cell_of_row (W := W0) (k := 4) (v := .int .i64 0) g1 rfl
  have a5 := cell_of_row (W := W0) (k := 5) (v := .slice none 0 0) g0 rfl
  have b5 := cell_of_row (W := W0) (k := 5) (v := .slice none 0 0) g1 rfl
  clear hb0 hs0
  go_enter Try.func50, Try.ntmps50
  have HB : Hid (Below W0.heap.size W0 W0) := Below.refl _ _
  have C0 := hid (nil_51 W0)
  go_wp2_with fail
  refine C0.out.mono ?_
  rintro e w0 ⟨rfl, hw⟩
  have hw2 := hw.symm
  subst hw2
  clear hw
  have HF : Hid (Below w.heap.size w W0) := (HV.out W0 HB.out).2.2
  go_wp2_with fail
  go_ret
  exact ⟨rfl, HF.out⟩
set_option maxRecDepth 100000 in
set_option maxHeartbeats 4000000 in
theorem zero_frag (w : World) : Calls Try.prog 31 #[.agg #[.int .i64 0, .int .i64 0, .int .u8 0, .string { data := #[] }, .int .u64 0, .int .u64 0, .int .i64 0, .slice none 0 0, .int .u8 0, .string { data := #[] }, .int .u64 0, .int .u64 0, .int .i64 0, .slice none 0 0, .bool false, .int .i64 0, .slice none 0 0], .agg #[.int .i64 0, .int .i64 0, .int .u8 0, .string { data := #[] }, .int .u64 0, .int .u64 0, .int .i64 0, .slice none 0 0, .int .u8 0, .string { data := #[] }, .int .u64 0, .int .u64 0, .int .i64 0, .slice none 0 0, .bool false, .int .i64 0, .slice none 0 0]] w fun e w' => e = .returned (.bool true) ∧ Below w.heap.size w w' := by
  obtain ⟨W0, hW0, hb0, hs0, g0, g1⟩ := two_boxes2 w #[.int .i64 0, .int .i64 0, .int .u8 0, .string { data := #[] }, .int .u64 0, .int .u64 0, .int .i64 0, .slice none 0 0, .int .u8 0, .string { data := #[] }, .int .u64 0, .int .u64 0, .int .i64 0, .slice none 0 0, .bool false, .int .i64 0, .slice none 0 0] #[.int .i64 0, .int .i64 0, .int .u8 0, .string { data := #[] }, .int .u64 0, .int .u64 0, .int .i64 0, .slice none 0 0, .int .u8 0, .string { data := #[] }, .int .u64 0, .int .u64 0, .int .i64 0, .slice none 0 0, .bool false, .int .i64 0, .slice none 0 0] 56 56
  have HV : Hid (∀ V, Below W0.heap.size W0 V → V.heap[w.heap.size]? = some (.cells #[.int .i64 0, .int .i64 0, .int .u8 0, .string { data := #[] }, .int .u64 0, .int .u64 0, .int .i64 0, .slice none 0 0, .int .u8 0, .string { data := #[] }, .int .u64 0, .int .u64 0, .int .i64 0, .slice none 0 0, .bool false, .int .i64 0, .slice none 0 0] 56 (0, 0)) ∧ V.heap[w.heap.size + 1]? = some (.cells #[.int .i64 0, .int .i64 0, .int .u8 0, .string { data := #[] }, .int .u64 0, .int .u64 0, .int .i64 0, .slice none 0 0, .int .u8 0, .string { data := #[] }, .int .u64 0, .int .u64 0, .int .i64 0, .slice none 0 0, .bool false, .int .i64 0, .slice none 0 0] 56 (0, 0)) ∧ Below w.heap.size w V) := fun V hb => ⟨by rw [hb.block _ (by omega)]; exact g0, by rw [hb.block _ (by omega)]; exact g1, hb0.trans (hb.mono hb0.size)⟩
  have EV := eql_ver
  have a0 := cell_of_row (W := W0) (k := 0) (v := .int .i64 0) g0 rfl
  have b0 := cell_of_row (W := W0) (k := 0) (v := .int .i64 0) g1 rfl
  have a1 := cell_of_row (W := W0) (k := 1) (v := .int .i64 0) g0 rfl
  have b1 := cell_of_row (W := W0) (k := 1) (v := .int .i64 0) g1 rfl
  have a2 := cell_of_row (W := W0) (k := 2) (v := .int .u8 0) g0 rfl
  have b2 := cell_of_row (W := W0) (k := 2) (v := .int .u8 0) g1 rfl
  have a3 := cell_of_row (W := W0) (k := 3) (v := .string { data := #[] }) g0 rfl
  have b3 := cell_of_row (W := W0) (k := 3) (v := .string { data := #[] }) g1 rfl
  have a4 := cell_of_row (W := W0) (k := 4) (v := .int .u64 0) g0 rfl
  have b4 := cell_of_row (W := W0) (k := 4) (v := .int .u64 0) g1 rfl
  have a5 := cell_of_row (W := W0) (k := 5) (v := .int .u64 0) g0 rfl
  have b5 := cell_of_row (W := W0) (k := 5) (v := .int .u64 0) g1 rfl
  have a6 := cell_of_row (W := W0) (k := 6) (v := .int .i64 0) g0 rfl
  have b6 := cell_of_row (W := W0) (k := 6) (v := .int .i64 0) g1 rfl
  have a7 := cell_of_row (W := W0) (k := 7) (v := .slice none 0 0) g0 rfl
  have b7 := cell_of_row (W := W0) (k := 7) (v := .slice none 0 0) g1 rfl
  have a8 := cell_of_row (W := W0) (k := 8) (v := .int .u8 0) g0 rfl
  have b8 := cell_of_row (W := W0) (k := 8) (v := .int .u8 0) g1 rfl
  have a9 := cell_of_row (W := W0) (k := 9) (v := .string { data := #[] }) g0 rfl
  have b9 := cell_of_row (W := W0) (k := 9) (v := .string { data := #[] }) g1 rfl
  have a10 := cell_of_row (W := W0) (k := 10) (v := .int .u64 0) g0 rfl
  have b10 := cell_of_row (W := W0) (k := 10) (v := .int .u64 0) g1 rfl
  have a11 := cell_of_row (W := W0) (k := 11) (v := .int .u64 0) g0 rfl
  have b11 := cell_of_row (W := W0) (k := 11) (v := .int .u64 0) g1 rfl
  have a12 := cell_of_row (W := W0) (k := 12) (v := .int .i64 0) g0 rfl
  have b12 := cell_of_row (W := W0) (k := 12) (v := .int .i64 0) g1 rfl
  have a13 := cell_of_row (W := W0) (k := 13) (v := .slice none 0 0) g0 rfl
  have b13 := cell_of_row (W := W0) (k := 13) (v := .slice none 0 0) g1 rfl
  have a14 := cell_of_row (W := W0) (k := 14) (v := .bool false) g0 rfl
  have b14 := cell_of_row (W := W0) (k := 14) (v := .bool false) g1 rfl
  have a15 := cell_of_row (W := W0) (k := 15) (v := .int .i64 0) g0 rfl
  have b15 := cell_of_row (W := W0) (k := 15) (v := .int .i64 0) g1 rfl
  have a16 := cell_of_row (W := W0) (k := 16) (v := .slice none 0 0) g0 rfl
  have b16 := cell_of_row (W := W0) (k := 16) (v := .slice none 0 0) g1 rfl
  clear hb0 hs0
  go_enter Try.func31, Try.ntmps31
  have HB : Hid (Below W0.heap.size W0 W0) := Below.refl _ _
  have C0 := hid (zero_src W0)
  go_wp2_with fail
  refine C0.out.mono ?_
  rintro e w0 ⟨rfl, hb1⟩
  have HB2 : Hid (Below W0.heap.size W0 w0) := HB.out.trans (hb1.mono HB.out.size)
  clear a0 b0 a1 b1 a2 b2 a3 b3 a4 b4 a5 b5 a6 b6 a7 b7 a8 b8 a9 b9 a10 b10 a11 b11 a12 b12 a13 b13 a14 b14 a15 b15 a16 b16
  clear g0 g1 HB hb1 hW0
  obtain ⟨g0, g1, _⟩ := HV.out w0 HB2.out
  have HB := HB2
  clear HB2
  have a0 := cell_of_row (W := w0) (k := 0) (v := .int .i64 0) g0 rfl
  have b0 := cell_of_row (W := w0) (k := 0) (v := .int .i64 0) g1 rfl
  have a1 := cell_of_row (W := w0) (k := 1) (v := .int .i64 0) g0 rfl
  have b1 := cell_of_row (W := w0) (k := 1) (v := .int .i64 0) g1 rfl
  have a2 := cell_of_row (W := w0) (k := 2) (v := .int .u8 0) g0 rfl
  have b2 := cell_of_row (W := w0) (k := 2) (v := .int .u8 0) g1 rfl
  have a3 := cell_of_row (W := w0) (k := 3) (v := .string { data := #[] }) g0 rfl
  have b3 := cell_of_row (W := w0) (k := 3) (v := .string { data := #[] }) g1 rfl
  have a4 := cell_of_row (W := w0) (k := 4) (v := .int .u64 0) g0 rfl
  have b4 := cell_of_row (W := w0) (k := 4) (v := .int .u64 0) g1 rfl
  have a5 := cell_of_row (W := w0) (k := 5) (v := .int .u64 0) g0 rfl
  have b5 := cell_of_row (W := w0) (k := 5) (v := .int .u64 0) g1 rfl
  have a6 := cell_of_row (W := w0) (k := 6) (v := .int .i64 0) g0 rfl
  have b6 := cell_of_row (W := w0) (k := 6) (v := .int .i64 0) g1 rfl
  have a7 := cell_of_row (W := w0) (k := 7) (v := .slice none 0 0) g0 rfl
  have b7 := cell_of_row (W := w0) (k := 7) (v := .slice none 0 0) g1 rfl
  have a8 := cell_of_row (W := w0) (k := 8) (v := .int .u8 0) g0 rfl
  have b8 := cell_of_row (W := w0) (k := 8) (v := .int .u8 0) g1 rfl
  have a9 := cell_of_row (W := w0) (k := 9) (v := .string { data := #[] }) g0 rfl
  have b9 := cell_of_row (W := w0) (k := 9) (v := .string { data := #[] }) g1 rfl
  have a10 := cell_of_row (W := w0) (k := 10) (v := .int .u64 0) g0 rfl
  have b10 := cell_of_row (W := w0) (k := 10) (v := .int .u64 0) g1 rfl
  have a11 := cell_of_row (W := w0) (k := 11) (v := .int .u64 0) g0 rfl
  have b11 := cell_of_row (W := w0) (k := 11) (v := .int .u64 0) g1 rfl
  have a12 := cell_of_row (W := w0) (k := 12) (v := .int .i64 0) g0 rfl
  have b12 := cell_of_row (W := w0) (k := 12) (v := .int .i64 0) g1 rfl
  have a13 := cell_of_row (W := w0) (k := 13) (v := .slice none 0 0) g0 rfl
  have b13 := cell_of_row (W := w0) (k := 13) (v := .slice none 0 0) g1 rfl
  have a14 := cell_of_row (W := w0) (k := 14) (v := .bool false) g0 rfl
  have b14 := cell_of_row (W := w0) (k := 14) (v := .bool false) g1 rfl
  have a15 := cell_of_row (W := w0) (k := 15) (v := .int .i64 0) g0 rfl
  have b15 := cell_of_row (W := w0) (k := 15) (v := .int .i64 0) g1 rfl
  have a16 := cell_of_row (W := w0) (k := 16) (v := .slice none 0 0) g0 rfl
  have b16 := cell_of_row (W := w0) (k := 16) (v := .slice none 0 0) g1 rfl
  have C1 := hid (zero_src w0)
  go_wp2_with fail
  refine C1.out.mono ?_
  rintro e w1 ⟨rfl, hb2⟩
  have HB2 : Hid (Below W0.heap.size W0 w1) := HB.out.trans (hb2.mono HB.out.size)
  clear a0 b0 a1 b1 a2 b2 a3 b3 a4 b4 a5 b5 a6 b6 a7 b7 a8 b8 a9 b9 a10 b10 a11 b11 a12 b12 a13 b13 a14 b14 a15 b15 a16 b16
  clear g0 g1 HB hb2
  obtain ⟨g0, g1, _⟩ := HV.out w1 HB2.out
  have HB := HB2
  clear HB2
  have a0 := cell_of_row (W := w1) (k := 0) (v := .int .i64 0) g0 rfl
  have b0 := cell_of_row (W := w1) (k := 0) (v := .int .i64 0) g1 rfl
  have a1 := cell_of_row (W := w1) (k := 1) (v := .int .i64 0) g0 rfl
  have b1 := cell_of_row (W := w1) (k := 1) (v := .int .i64 0) g1 rfl
  have a2 := cell_of_row (W := w1) (k := 2) (v := .int .u8 0) g0 rfl
  have b2 := cell_of_row (W := w1) (k := 2) (v := .int .u8 0) g1 rfl
  have a3 := cell_of_row (W := w1) (k := 3) (v := .string { data := #[] }) g0 rfl
  have b3 := cell_of_row (W := w1) (k := 3) (v := .string { data := #[] }) g1 rfl
  have a4 := cell_of_row (W := w1) (k := 4) (v := .int .u64 0) g0 rfl
  have b4 := cell_of_row (W := w1) (k := 4) (v := .int .u64 0) g1 rfl
  have a5 := cell_of_row (W := w1) (k := 5) (v := .int .u64 0) g0 rfl
  have b5 := cell_of_row (W := w1) (k := 5) (v := .int .u64 0) g1 rfl
  have a6 := cell_of_row (W := w1) (k := 6) (v := .int .i64 0) g0 rfl
  have b6 := cell_of_row (W := w1) (k := 6) (v := .int .i64 0) g1 rfl
  have a7 := cell_of_row (W := w1) (k := 7) (v := .slice none 0 0) g0 rfl
  have b7 := cell_of_row (W := w1) (k := 7) (v := .slice none 0 0) g1 rfl
  have a8 := cell_of_row (W := w1) (k := 8) (v := .int .u8 0) g0 rfl
  have b8 := cell_of_row (W := w1) (k := 8) (v := .int .u8 0) g1 rfl
  have a9 := cell_of_row (W := w1) (k := 9) (v := .string { data := #[] }) g0 rfl
  have b9 := cell_of_row (W := w1) (k := 9) (v := .string { data := #[] }) g1 rfl
  have a10 := cell_of_row (W := w1) (k := 10) (v := .int .u64 0) g0 rfl
  have b10 := cell_of_row (W := w1) (k := 10) (v := .int .u64 0) g1 rfl
  have a11 := cell_of_row (W := w1) (k := 11) (v := .int .u64 0) g0 rfl
  have b11 := cell_of_row (W := w1) (k := 11) (v := .int .u64 0) g1 rfl
  have a12 := cell_of_row (W := w1) (k := 12) (v := .int .i64 0) g0 rfl
  have b12 := cell_of_row (W := w1) (k := 12) (v := .int .i64 0) g1 rfl
  have a13 := cell_of_row (W := w1) (k := 13) (v := .slice none 0 0) g0 rfl
  have b13 := cell_of_row (W := w1) (k := 13) (v := .slice none 0 0) g1 rfl
  have a14 := cell_of_row (W := w1) (k := 14) (v := .bool false) g0 rfl
  have b14 := cell_of_row (W := w1) (k := 14) (v := .bool false) g1 rfl
  have a15 := cell_of_row (W := w1) (k := 15) (v := .int .i64 0) g0 rfl
  have b15 := cell_of_row (W := w1) (k := 15) (v := .int .i64 0) g1 rfl
  have a16 := cell_of_row (W := w1) (k := 16) (v := .slice none 0 0) g0 rfl
  have b16 := cell_of_row (W := w1) (k := 16) (v := .slice none 0 0) g1 rfl
  have C2 := hid (nil_51 w1)
  go_wp2_with fail
  refine C2.out.mono ?_
  rintro e w2 ⟨rfl, hw⟩
  have hw2 := hw.symm
  subst hw2
  clear hw
  have HF : Hid (Below w.heap.size w w1) := (HV.out w1 HB.out).2.2
  go_wp2_with fail
  go_ret
  exact ⟨rfl, HF.out⟩
set_option maxRecDepth 100000 in
set_option maxHeartbeats 4000000 in
theorem zero_file (w : World) : Calls Try.prog 32 #[.agg #[.string { data := #[] }, .int .u64 0, .int .u64 0, .int .i64 0, .slice none 0 0, .slice none 0 0], .agg #[.string { data := #[] }, .int .u64 0, .int .u64 0, .int .i64 0, .slice none 0 0, .slice none 0 0]] w fun e w' => e = .returned (.bool true) ∧ Below w.heap.size w w' := by
  obtain ⟨W0, hW0, hb0, hs0, g0, g1⟩ := two_boxes2 w #[.string { data := #[] }, .int .u64 0, .int .u64 0, .int .i64 0, .slice none 0 0, .slice none 0 0] #[.string { data := #[] }, .int .u64 0, .int .u64 0, .int .i64 0, .slice none 0 0, .slice none 0 0] 59 59
  have HV : Hid (∀ V, Below W0.heap.size W0 V → V.heap[w.heap.size]? = some (.cells #[.string { data := #[] }, .int .u64 0, .int .u64 0, .int .i64 0, .slice none 0 0, .slice none 0 0] 59 (0, 0)) ∧ V.heap[w.heap.size + 1]? = some (.cells #[.string { data := #[] }, .int .u64 0, .int .u64 0, .int .i64 0, .slice none 0 0, .slice none 0 0] 59 (0, 0)) ∧ Below w.heap.size w V) := fun V hb => ⟨by rw [hb.block _ (by omega)]; exact g0, by rw [hb.block _ (by omega)]; exact g1, hb0.trans (hb.mono hb0.size)⟩
  have EV := eql_ver
  have a0 := cell_of_row (W := W0) (k := 0) (v := .string { data := #[] }) g0 rfl
  have b0 := cell_of_row (W := W0) (k := 0) (v := .string { data := #[] }) g1 rfl
  have a1 := cell_of_row (W := W0) (k := 1) (v := .int .u64 0) g0 rfl
  have b1 := cell_of_row (W := W0) (k := 1) (v := .int .u64 0) g1 rfl
  have a2 := cell_of_row (W := W0) (k := 2) (v := .int .u64 0) g0 rfl
  have b2 := cell_of_row (W := W0) (k := 2) (v := .int .u64 0) g1 rfl
  have a3 := cell_of_row (W := W0) (k := 3) (v := .int .i64 0) g0 rfl
  have b3 := cell_of_row (W := W0) (k := 3) (v := .int .i64 0) g1 rfl
  have a4 := cell_of_row (W := W0) (k := 4) (v := .slice none 0 0) g0 rfl
  have b4 := cell_of_row (W := W0) (k := 4) (v := .slice none 0 0) g1 rfl
  have a5 := cell_of_row (W := W0) (k := 5) (v := .slice none 0 0) g0 rfl
  have b5 := cell_of_row (W := W0) (k := 5) (v := .slice none 0 0) g1 rfl
  clear hb0 hs0
  go_enter Try.func32, Try.ntmps32
  have HB : Hid (Below W0.heap.size W0 W0) := Below.refl _ _
  have C0 := hid (nil_29 W0)
  go_wp2_with fail
  refine C0.out.mono ?_
  rintro e w0 ⟨rfl, hw⟩
  have hw2 := hw.symm
  subst hw2
  clear hw
  have C1 := hid (nil_28 W0)
  go_wp2_with fail
  refine C1.out.mono ?_
  rintro e w1 ⟨rfl, hw⟩
  have hw2 := hw.symm
  subst hw2
  clear hw
  have HF : Hid (Below w.heap.size w W0) := (HV.out W0 HB.out).2.2
  go_wp2_with fail
  go_ret
  exact ⟨rfl, HF.out⟩
set_option maxRecDepth 100000 in
set_option maxHeartbeats 4000000 in
theorem zero_bnd (w : World) : Calls Try.prog 30 #[.agg #[.string { data := #[] }, .string { data := #[] }, .int .i64 0, .int .i64 0, .int .i64 0, .slice none 0 0, .slice none 0 0, .slice none 0 0, .bool false, .slice none 0 0, .slice none 0 0], .agg #[.string { data := #[] }, .string { data := #[] }, .int .i64 0, .int .i64 0, .int .i64 0, .slice none 0 0, .slice none 0 0, .slice none 0 0, .bool false, .slice none 0 0, .slice none 0 0]] w fun e w' => e = .returned (.bool true) ∧ Below w.heap.size w w' := by
  obtain ⟨W0, hW0, hb0, hs0, g0, g1⟩ := two_boxes2 w #[.string { data := #[] }, .string { data := #[] }, .int .i64 0, .int .i64 0, .int .i64 0, .slice none 0 0, .slice none 0 0, .slice none 0 0, .bool false, .slice none 0 0, .slice none 0 0] #[.string { data := #[] }, .string { data := #[] }, .int .i64 0, .int .i64 0, .int .i64 0, .slice none 0 0, .slice none 0 0, .slice none 0 0, .bool false, .slice none 0 0, .slice none 0 0] 48 48
  have HV : Hid (∀ V, Below W0.heap.size W0 V → V.heap[w.heap.size]? = some (.cells #[.string { data := #[] }, .string { data := #[] }, .int .i64 0, .int .i64 0, .int .i64 0, .slice none 0 0, .slice none 0 0, .slice none 0 0, .bool false, .slice none 0 0, .slice none 0 0] 48 (0, 0)) ∧ V.heap[w.heap.size + 1]? = some (.cells #[.string { data := #[] }, .string { data := #[] }, .int .i64 0, .int .i64 0, .int .i64 0, .slice none 0 0, .slice none 0 0, .slice none 0 0, .bool false, .slice none 0 0, .slice none 0 0] 48 (0, 0)) ∧ Below w.heap.size w V) := fun V hb => ⟨by rw [hb.block _ (by omega)]; exact g0, by rw [hb.block _ (by omega)]; exact g1, hb0.trans (hb.mono hb0.size)⟩
  have EV := eql_ver
  have a0 := cell_of_row (W := W0) (k := 0) (v := .string { data := #[] }) g0 rfl
  have b0 := cell_of_row (W := W0) (k := 0) (v := .string { data := #[] }) g1 rfl
  have a1 := cell_of_row (W := W0) (k := 1) (v := .string { data := #[] }) g0 rfl
  have b1 := cell_of_row (W := W0) (k := 1) (v := .string { data := #[] }) g1 rfl
  have a2 := cell_of_row (W := W0) (k := 2) (v := .int .i64 0) g0 rfl
  have b2 := cell_of_row (W := W0) (k := 2) (v := .int .i64 0) g1 rfl
  have a3 := cell_of_row (W := W0) (k := 3) (v := .int .i64 0) g0 rfl
  have b3 := cell_of_row (W := W0) (k := 3) (v := .int .i64 0) g1 rfl
  have a4 := cell_of_row (W := W0) (k := 4) (v := .int .i64 0) g0 rfl
  have b4 := cell_of_row (W := W0) (k := 4) (v := .int .i64 0) g1 rfl
  have a5 := cell_of_row (W := W0) (k := 5) (v := .slice none 0 0) g0 rfl
  have b5 := cell_of_row (W := W0) (k := 5) (v := .slice none 0 0) g1 rfl
  have a6 := cell_of_row (W := W0) (k := 6) (v := .slice none 0 0) g0 rfl
  have b6 := cell_of_row (W := W0) (k := 6) (v := .slice none 0 0) g1 rfl
  have a7 := cell_of_row (W := W0) (k := 7) (v := .slice none 0 0) g0 rfl
  have b7 := cell_of_row (W := W0) (k := 7) (v := .slice none 0 0) g1 rfl
  have a8 := cell_of_row (W := W0) (k := 8) (v := .bool false) g0 rfl
  have b8 := cell_of_row (W := W0) (k := 8) (v := .bool false) g1 rfl
  have a9 := cell_of_row (W := W0) (k := 9) (v := .slice none 0 0) g0 rfl
  have b9 := cell_of_row (W := W0) (k := 9) (v := .slice none 0 0) g1 rfl
  have a10 := cell_of_row (W := W0) (k := 10) (v := .slice none 0 0) g0 rfl
  have b10 := cell_of_row (W := W0) (k := 10) (v := .slice none 0 0) g1 rfl
  clear hb0 hs0
  go_enter Try.func30, Try.ntmps30
  have HB : Hid (Below W0.heap.size W0 W0) := Below.refl _ _
  have C0 := hid (nil_48 W0)
  go_wp2_with fail
  refine C0.out.mono ?_
  rintro e w0 ⟨rfl, hw⟩
  have hw2 := hw.symm
  subst hw2
  clear hw
  have C1 := hid (nil_49 W0)
  go_wp2_with fail
  refine C1.out.mono ?_
  rintro e w1 ⟨rfl, hw⟩
  have hw2 := hw.symm
  subst hw2
  clear hw
  go_wp2_with fail
  go_loopg [92] 0 (fun gf s wx => s = .int .i64 0 ∧ wx = W0)
  case atStart => exact ⟨rfl, rfl⟩
  case round =>
  obtain ⟨rfl, hw⟩ := hrel
  have hw2 := hw.symm
  subst hw2
  clear hw
  go_wp2_with fail
  go_loopg [110] 0 (fun gf s wx => s = .int .i64 0 ∧ wx = W0)
  case atStart => exact ⟨rfl, rfl⟩
  case round =>
  obtain ⟨rfl, hw⟩ := hrel
  have hw2 := hw.symm
  subst hw2
  clear hw
  go_wp2_with fail
  go_loopg [128] 0 (fun gf s wx => s = .int .i64 0 ∧ wx = W0)
  case atStart => exact ⟨rfl, rfl⟩
  case round =>
  obtain ⟨rfl, hw⟩ := hrel
  have hw2 := hw.symm
  subst hw2
  clear hw
  have HF : Hid (Below w.heap.size w W0) := (HV.out W0 HB.out).2.2
  go_wp2_with fail
  go_ret
  exact ⟨rfl, HF.out⟩
end Go.Proofs.Ytcmiphgeakdonaa
