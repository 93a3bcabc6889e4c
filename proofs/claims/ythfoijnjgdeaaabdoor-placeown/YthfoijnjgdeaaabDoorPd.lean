/- A row's shard, and a row that is copied: what shardOf, Shard and copyRow answer. -/
import Derived.Test.YthfoijnjgdeaaabDoorXc
import Derived.Test.YthfoijnjgdeaaabDoorHash
import Derived.Test.YthfoijnjgdeaaabDoorShelfE
namespace Go.Proofs.YthfoijnjgdeaaabDoor
open Go.Shelf Go.RowKit Go.Lib Go.Sort
set_option linter.unusedVariables false
set_option linter.unusedSimpArgs false
attribute [local go_sem ↓] Go.wp_at_zero Go.wp_at_succ
theorem sclone_any (s : ByteArray) (w : World) (hlim : s.size ≤ 281474976710656) : Calls Tryd.prog 32 #[.string s] w fun e w' => e = .returned (.string s) ∧ Below w.heap.size w w' := Any.stringslite_Clone Tryd.laysM316 s w hlim
theorem clone_any (s : ByteArray) (w : World) (hlim : s.size ≤ 281474976710656) : Calls Tryd.prog 22 #[.string s] w fun e w' => e = .returned (.string s) ∧ Below w.heap.size w w' := by
  have C : Hid (Calls Tryd.prog 32 #[.string s] w fun e w' => e = .returned (.string s) ∧ Below w.heap.size w w') := sclone_any s w hlim
  go_enter Tryd.func22, Tryd.ntmps22
  go_wp2_with fail
  refine C.out.mono ?_
  rintro e w1 ⟨rfl, hb⟩
  go_wp2_with fail
  go_ret
  exact ⟨rfl, hb⟩
/-- The shard of a row. -/
def shd (S : Int) (xs : List Val) : Int := match xs with
  | [] => 0
  | x :: _ => hashV x % S
set_option maxRecDepth 100000 in
set_option maxHeartbeats 4000000 in
theorem shardOf_any (N S R : Int) (v : Value) (x : Val) (xs : List Val) (w : World) (hv : RowV w v (x :: xs)) (hS : 1 ≤ S ∧ S ≤ 8) (k0 : 0 ≤ x.k) (k1 : x.k ≤ 255) (hs : x.s.size ≤ 9223372036854775807) (hh : 0 ≤ hashV x ∧ hashV x < 18446744073709551616) :
    Calls Tryd.prog 13 #[.agg #[.int .i64 N, .int .i64 S, .int .i64 R], v] w fun e w' => e = .returned (.int .i64 (shd S (x :: xs))) ∧ Below w.heap.size w w' := by
  obtain ⟨p, c, rfl, hl, hp⟩ := hv.form
  obtain ⟨b, o, rfl, hr, hB⟩ := hp (by simp)
  obtain ⟨x0, x1, x2, x3⟩ := hr 0 (by simp)
  obtain ⟨xk, xb, xn, xs'⟩ := x
  simp only [List.getElem_cons_zero, Nat.zero_mul, Nat.add_zero] at x0 x1 x2 x3 k0 k1 hs
  obtain ⟨H, hH⟩ : ∃ H, hashV ⟨xk, xb, xn, xs'⟩ = H := ⟨_, rfl⟩
  have e : shd S (⟨xk, xb, xn, xs'⟩ :: xs) = H % S := by rw [← hH]; rfl
  rw [e]
  rw [hH] at hh
  obtain ⟨W0, hW0⟩ : ∃ W0, w.alloc (.cells #[.int .i64 N, .int .i64 S, .int .i64 R] 23) = W0 := ⟨_, rfl⟩
  have hb0 : Below w.heap.size w W0 := by rw [← hW0]; exact box3_below w _ _ _
  have hB0 : b < W0.heap.size := Nat.lt_of_lt_of_le hB hb0.size
  have px0 : ∀ p : LaterS W0.heap.size W0, p.w.cell? ⟨b, o, none⟩ = some (.int .u8 xk) := fun p => by rw [p.h.cell hB0, hb0.cell hB]; exact x0
  have px1 : ∀ p : LaterS W0.heap.size W0, p.w.cell? ⟨b, o + 1, none⟩ = some (.bool xb) := fun p => by rw [p.h.cell hB0, hb0.cell hB]; exact x1
  have px2 : ∀ p : LaterS W0.heap.size W0, p.w.cell? ⟨b, o + 2, none⟩ = some (.int .i64 xn) := fun p => by rw [p.h.cell hB0, hb0.cell hB]; exact x2
  have px3 : ∀ p : LaterS W0.heap.size W0, p.w.cell? ⟨b, o + 3, none⟩ = some (.string xs') := fun p => by rw [p.h.cell hB0, hb0.cell hB]; exact x3
  have hbx : w.heap.size < W0.heap.size := by rw [← hW0]; simp
  have py : ∀ p : LaterS W0.heap.size W0, p.w.cell? ⟨w.heap.size, 1, none⟩ = some (.int .i64 S) := fun p => by rw [p.h.cell hbx, ← hW0]; exact cell_box w _ _ _ _ rfl
  have CH : Hid (∀ p : LaterS W0.heap.size W0, Calls Tryd.prog 21 #[.agg #[.int .u8 xk, .bool xb, .int .i64 xn, .string xs']] p.w fun e w' => e = .returned (.int .u64 H) ∧ Below p.w.heap.size p.w w') := fun p => by
    rw [← hH]; exact hash_core xk xb xn xs' p.w k0 k1 hs
  have HB0 : Hid (Below w.heap.size w W0) := hb0
  have hz : (0 : Int) < (((⟨xk, xb, xn, xs'⟩ : Val) :: xs).length : Int) := by simp
  have q1 : IntKind.u64.wrap S = S := by rw [IntKind.wrap_u64]; omega
  have q2 : (S == 0) = false := beq_eq_false_iff_ne.2 (by omega)
  have q3 : H.tmod S = H % S := Int.tmod_eq_emod_of_nonneg (by omega)
  have q4 : 0 ≤ H % S := Int.emod_nonneg _ (by omega)
  have q5 : H % S < S := Int.emod_lt_of_pos _ (by omega)
  have q6 : IntKind.i64.wrap (H % S) = H % S := by rw [IntKind.wrap_i64]; omega
  have q7 : IntKind.u64.wrap (H % S) = H % S := by rw [IntKind.wrap_u64]; omega
  clear x0 x1 x2 x3 hr e hH hv hp hb0
  go_enter Tryd.func13, Tryd.ntmps13
  go_wp2_with fail
  try rw [hW0]
  have inhL := laterInh
  refine wp_region_laterS mixedOnS (by kernel_rfl) ?_
  repeat (go_big_quiet_step ((go_at_call 21; exact calls_laterS (CH.out _))))
  refine wpQuiet_nil ?_
  intro w2 hw'
  obtain ⟨⟨wq, hwq⟩, hw''⟩ := hw'
  subst hw''
  have HB2 : Hid (Below w.heap.size w w2) := HB0.out.trans (hwq.mono HB0.out.size)
  clear hwq px0 px1 px2 px3 py
  go_wp2_with fail
  go_ret
  exact ⟨rfl, HB2.out⟩
end Go.Proofs.YthfoijnjgdeaaabDoor
