/- FormatInt to the base 16, of a number below 256. -/
import Derived.Test.YtnmmojhbcnlboaaGreatDoorLj
import Derived.WalkKit
namespace Go.Proofs.YtnmmojhbcnlboaaGreatDoor
open Go.RowKit Go.Lib Go.Sort
set_option linter.unusedVariables false
set_option linter.unusedSimpArgs false

theorem bit15 : (IntKind.u64.wrap (bits BinOp.and IntKind.u64 16 (IntKind.u64.wrap (-16)) * 285870213051353865) / 288230376151711744).toNat = 15 := by kernel_rfl
set_option maxRecDepth 100000 in
set_option maxHeartbeats 4000000 in
theorem trailing16 (w : World) (hD : w.cell? ⟨9, 15, none⟩ = some (.int .u8 4)) : Calls Tryz.prog 142 #[.int .u64 16] w fun e w' => e = .returned (.int .i64 4) ∧ w' = w := by
  have hD2 : w.cell? ⟨9, (IntKind.u64.wrap (bits BinOp.and IntKind.u64 16 (IntKind.u64.wrap (-16)) * 285870213051353865) / 288230376151711744).toNat, none⟩ = some (.int .u8 4) := by rw [bit15]; exact hD
  clear hD
  go_enter Tryz.func142, Tryz.ntmps142
  go_wp2
  go_ret
  exact ⟨rfl, rfl⟩
def hexDig (n : Nat) : UInt8 := if n < 10 then UInt8.ofNat (48 + n) else UInt8.ofNat (87 + n)
def hexS (r : Nat) : List UInt8 := if r < 16 then [hexDig r] else [hexDig (r / 16), hexDig (r % 16)]
theorem zc_size : Tryz.zeroCells174.size = 65 := by kernel_rfl
theorem cell_own (W : World) (vs : Array Value) (t : TypeId) (i : Nat) (v : Value) (h : vs[i]? = some v) : (W.alloc (.cells vs t)).cell? ⟨W.heap.size, i, none⟩ = some v := by
  have : (W.alloc (.cells vs t)).heap[W.heap.size]? = some (.cells vs t) := own_new W _
  unfold World.cell?
  rw [this]
  exact h
theorem conv_one (w : World) (x : UInt8) : (convert 56 9 (.slice (some ⟨w.heap.size, 64, none⟩) 1 1)).run Tryz.prog (w.alloc (.cells (Tryz.zeroCells174.setIfInBounds 64 (.int .u8 (x.toNat : Int))) 174)) = .ok (.string ⟨#[x]⟩) (w.alloc (.cells (Tryz.zeroCells174.setIfInBounds 64 (.int .u8 (x.toNat : Int))) 174)) := by
  refine run_convert_bytes_back (P := Tryz.prog) _ 56 9 5 ⟨w.heap.size, 64, none⟩ 1 [x] Tryz.underlying56 Tryz.underlying5 Tryz.underlying9 ?_
  intro j hj
  have : j = 0 := by simpa using hj
  subst this
  exact cell_own w _ 174 64 _ (by rw [Array.getElem?_setIfInBounds]; simp [zc_size])
theorem conv_two (w : World) (x y : UInt8) : (convert 56 9 (.slice (some ⟨w.heap.size, 63, none⟩) 2 2)).run Tryz.prog (w.alloc (.cells ((Tryz.zeroCells174.setIfInBounds 64 (.int .u8 (x.toNat : Int))).setIfInBounds 63 (.int .u8 (y.toNat : Int))) 174)) = .ok (.string ⟨#[y, x]⟩) (w.alloc (.cells ((Tryz.zeroCells174.setIfInBounds 64 (.int .u8 (x.toNat : Int))).setIfInBounds 63 (.int .u8 (y.toNat : Int))) 174)) := by
  refine run_convert_bytes_back (P := Tryz.prog) _ 56 9 5 ⟨w.heap.size, 63, none⟩ 2 [y, x] Tryz.underlying56 Tryz.underlying5 Tryz.underlying9 ?_
  intro j hj
  match j, hj with
  | 0, _ => exact cell_own w _ 174 63 _ (by rw [Array.getElem?_setIfInBounds]; simp [zc_size])
  | 1, _ => exact cell_own w _ 174 64 _ (by rw [Array.getElem?_setIfInBounds, if_neg (by omega), Array.getElem?_setIfInBounds]; simp [zc_size])
theorem dig_at : ∀ (r : Nat) (h : r < (⟨#[48, 49, 50, 51, 52, 53, 54, 55, 56, 57, 97, 98, 99, 100, 101, 102, 103, 104, 105, 106, 107, 108, 109, 110, 111, 112, 113, 114, 115, 116, 117, 118, 119, 120, 121, 122]⟩ : ByteArray).size), r < 16 → (⟨#[48, 49, 50, 51, 52, 53, 54, 55, 56, 57, 97, 98, 99, 100, 101, 102, 103, 104, 105, 106, 107, 108, 109, 110, 111, 112, 113, 114, 115, 116, 117, 118, 119, 120, 121, 122]⟩ : ByteArray)[r] = hexDig r := by
  intro r h hr
  have : r = 0 ∨ r = 1 ∨ r = 2 ∨ r = 3 ∨ r = 4 ∨ r = 5 ∨ r = 6 ∨ r = 7 ∨ r = 8 ∨ r = 9 ∨ r = 10 ∨ r = 11 ∨ r = 12 ∨ r = 13 ∨ r = 14 ∨ r = 15 := by omega
  rcases this with rfl | rfl | rfl | rfl | rfl | rfl | rfl | rfl | rfl | rfl | rfl | rfl | rfl | rfl | rfl | rfl <;> rfl
theorem and15 (r : Nat) (h : r < 256) : bits BinOp.and IntKind.u64 (r : Int) 15 = ((r % 16 : Nat) : Int) := by
  have : ∀ k : Fin 256, bits BinOp.and IntKind.u64 ((k.val : Nat) : Int) 15 = ((k.val % 16 : Nat) : Int) := by decide +kernel
  exact this ⟨r, h⟩
set_option maxRecDepth 100000 in
set_option maxHeartbeats 4000000 in
theorem format16 (r : Nat) (hr : r < 256) (w : World) (hD : w.cell? ⟨9, 15, none⟩ = some (.int .u8 4)) (h4 : 9 < w.heap.size) :
    Calls Tryz.prog 132 #[.slice none 0 0, .int .u64 r, .int .i64 16, .bool false, .bool false] w fun e w' => e = .returned (.tuple #[.slice none 0 0, .string ⟨(hexS r).toArray⟩]) ∧ Below w.heap.size w w' := by
  have C1 : Hid (∀ W, Below w.heap.size w W → Calls Tryz.prog 142 #[.int .u64 16] W fun e w' => e = .returned (.int .i64 4) ∧ w' = W) := fun W h => trailing16 W (by rw [h.cell (p := ⟨9, 15, none⟩) h4]; exact hD)
  clear hD
  go_enter Tryz.func132, Tryz.ntmps132
  go_wp2_with (first | (go_at_call 141; go_in) | fail)
  refine (C1.out _ ((Below.refl _ w).alloc (Nat.le_refl _) _)).mono ?_
  rintro e w1 ⟨rfl, rfl⟩
  clear C1
  by_cases h16 : r < 16
  · have t1 : ¬ (16 : Int) ≤ (r : Int) := by omega
    go_wp2_with fail
    refine wp_loop_rounds 1 ?_
    rw [rounds_succ]
    have cv := conv_one w
    go_wp2_with fail
    go_ret2
    refine ⟨?_, (Below.refl _ w).alloc (Nat.le_refl _) _⟩
    rw [dig_at r _ h16]
    simp [hexS, h16]
  · have t1 : (16 : Int) ≤ (r : Int) := by omega
    have hb := and15 r hr
    obtain ⟨lo, hlo⟩ : ∃ lo, r % 16 = lo := ⟨_, rfl⟩
    obtain ⟨hi, hhi⟩ : ∃ hi, r / 16 = hi := ⟨_, rfl⟩
    have hlo1 : lo < 16 := by omega
    have hhi1 : hi < 16 := by omega
    rw [hlo] at hb
    have hsh : (r : Int) / 16 = (hi : Int) := by omega
    have l0 : (0 : Int) ≤ (lo : Int) := by omega
    have l1 : (lo : Int) < 36 := by omega
    have t2 : ¬ (16 : Int) ≤ (hi : Int) := by omega
    have cv := conv_two w
    go_wp2_with fail
    refine wp_loop_rounds 2 ?_
    rw [rounds_succ]
    go_wp2_with fail
    rw [rounds_succ]
    go_wp2_with fail
    go_ret2
    refine ⟨?_, (Below.refl _ w).alloc (Nat.le_refl _) _⟩
    rw [dig_at hi _ hhi1, dig_at lo _ hlo1]
    simp [hexS, h16, hlo, hhi]
set_option maxRecDepth 100000 in
set_option maxHeartbeats 4000000 in
theorem formatInt16 (r : Nat) (hr : r < 256) (w : World) (hD : w.cell? ⟨9, 15, none⟩ = some (.int .u8 4)) (h4 : 9 < w.heap.size) :
    Calls Tryz.prog 92 #[.int .i64 r, .int .i64 16] w fun e w' => e = .returned (.string ⟨(hexS r).toArray⟩) ∧ Below w.heap.size w w' := by
  have C : Hid (Calls Tryz.prog 132 #[.slice none 0 0, .int .u64 r, .int .i64 16, .bool false, .bool false] w fun e w' => e = .returned (.tuple #[.slice none 0 0, .string ⟨(hexS r).toArray⟩]) ∧ Below w.heap.size w w') := format16 r hr w hD h4
  have t0 : ¬ (r : Int) < 0 := by omega
  clear hD
  go_enter Tryz.func92, Tryz.ntmps92
  go_wp2_with (first | (go_at_call 113; go_in) | fail)
  refine C.out.mono ?_
  rintro e w1 ⟨rfl, hb⟩
  go_wp2_with fail
  go_ret
  exact ⟨rfl, hb⟩
end Go.Proofs.YtnmmojhbcnlboaaGreatDoor
