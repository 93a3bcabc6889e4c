/- What Check answers of any value. -/
import Derived.Test.YtajomnfeicfdlaaGreatDoorUtf
import Derived.Test.YtajomnfeicfdlaaGreatDoorShelfC
namespace Go.Proofs.YtajomnfeicfdlaaGreatDoor
open Go.RowKit Go.Lib
set_option linter.unusedVariables false
attribute [local go_sem ↓] Go.wp_at_zero Go.wp_at_succ

set_option maxHeartbeats 1000000 in
theorem checkUtf_any (s : ByteArray) (w : World) (hs : s.size ≤ 9223372036854775807) (hT : Lib.Utf8Tabs 0 1 w) :
  Calls Tryz.prog 164 #[.string s] w fun e w' => e = .returned (.int .i64 (if Lib.validD s.data.toList then 0 else 9)) ∧ Below w.heap.size w w' := by
 have c := Tryz.utf8_ValidString s w hs hT
 generalize Lib.validD s.data.toList = t at c ⊢
 cases t
 all_goals
  go_enter Tryz.func164, Tryz.ntmps164
  go_wp2_with (go_at_call 165; refine c.mono ?_; rintro e w' ⟨rfl, hb⟩)
  go_ret
  exact ⟨rfl, hb⟩

set_option maxHeartbeats 1000000 in
theorem check_fit (k : Int) (b : Bool) (n : Int) (s : ByteArray) (w : World) (hs : s.size ≤ 9223372036854775807) (hT : Lib.Utf8Tabs 0 1 w) (hk : ¬ 4 ≤ k) (hd : decide (4 ≤ k) = false) (t : sameV ⟨k, b, n, s⟩ (Val.bare ⟨k, b, n, s⟩) = true) :
  Calls Tryz.prog 160 #[.agg #[.int .u8 k, .bool b, .int .i64 n, .string s]] w fun e w' => e = .returned (.int .i64 (if 256 < s.size then 4 else if Lib.validD s.data.toList then 0 else 9)) ∧ Below w.heap.size w w' := by
 have cB := bare_core k b n s
 have hq := neq_core k (Val.bare ⟨k, b, n, s⟩).k b (Val.bare ⟨k, b, n, s⟩).b n (Val.bare ⟨k, b, n, s⟩).n s (Val.bare ⟨k, b, n, s⟩).s
 simp only [Val.agg] at cB
 rw [show (⟨(Val.bare ⟨k, b, n, s⟩).k, (Val.bare ⟨k, b, n, s⟩).b, (Val.bare ⟨k, b, n, s⟩).n, (Val.bare ⟨k, b, n, s⟩).s⟩ : Val) = Val.bare ⟨k, b, n, s⟩ from rfl, t] at hq
 clear t
 obtain ⟨k', hk'⟩ : ∃ x, (Val.bare ⟨k, b, n, s⟩).k = x := ⟨_, rfl⟩
 obtain ⟨b', hb'⟩ : ∃ x, (Val.bare ⟨k, b, n, s⟩).b = x := ⟨_, rfl⟩
 obtain ⟨n', hn'⟩ : ∃ x, (Val.bare ⟨k, b, n, s⟩).n = x := ⟨_, rfl⟩
 obtain ⟨s', hs'⟩ : ∃ x, (Val.bare ⟨k, b, n, s⟩).s = x := ⟨_, rfl⟩
 rw [hk', hb', hn', hs'] at cB hq
 clear hk' hb' hn' hs'
 have cB2 : Hid (∀ w, Calls Tryz.prog 163 #[.agg #[.int .u8 k, .bool b, .int .i64 n, .string s]] w fun e w' => e = .returned (.agg #[.int .u8 k', .bool b', .int .i64 n', .string s']) ∧ Below w.heap.size w w') := cB
 have cU0 : ∀ W, Below w.heap.size w W → Calls Tryz.prog 164 #[.string s] W fun e w' => e = .returned (.int .i64 (if Lib.validD s.data.toList then 0 else 9)) ∧ Below W.heap.size W w' := fun W hb => checkUtf_any s W hs (Utf8Tabs_below hT hb)
 obtain ⟨R, hR⟩ : ∃ R, (if Lib.validD s.data.toList then (0 : Int) else 9) = R := ⟨_, rfl⟩
 rw [hR] at cU0 ⊢
 have cU : Hid (∀ W, Below w.heap.size w W → Calls Tryz.prog 164 #[.string s] W fun e w' => e = .returned (.int .i64 R) ∧ Below W.heap.size W w') := cU0
 clear cB hT cU0 hR
 by_cases hl : 256 < s.size
 ·have hl' : (256 : Int) < (s.size : Int) := by omega
  rw [if_pos hl]
  go_enter Tryz.func160, Tryz.ntmps160
  go_wp2
  go_region_held3 (fun w' => w'.cell? ⟨w.heap.size, 0, none⟩ = some (.int .u8 k) ∧ w'.cell? ⟨w.heap.size, 1, none⟩ = some (.bool b) ∧ w'.cell? ⟨w.heap.size, 2, none⟩ = some (.int .i64 n) ∧ w'.cell? ⟨w.heap.size, 3, none⟩ = some (.string s)) (first | (go_split_ands; refine ⟨?_, ?_, ?_, ?_⟩ <;> (rw [hb1.cell (by simp)]; simp)) | go_keep)
   ((go_at_call 163; refine (cB2.out _).mono ?_; rintro e w1 ⟨rfl, hb1⟩))
  have c3 : w1.cell? ⟨w.heap.size, 3, none⟩ = some (.string s) := by rw [hb1.cell (by simp)]; simp
  have hlt : w.heap.size < w1.heap.size := by have := hb1.size; simp at this; omega
  go_wp2
  go_ret
  exact ⟨rfl, (below_drewN ((Below.refl _ _).alloc (Nat.le_refl _) _) 1).trans (hb1.mono (by simp))⟩
 ·have hl' : ¬ (256 : Int) < (s.size : Int) := by omega
  rw [if_neg hl]
  go_enter Tryz.func160, Tryz.ntmps160
  go_wp2
  go_region_held3 (fun w' => w'.cell? ⟨w.heap.size, 0, none⟩ = some (.int .u8 k) ∧ w'.cell? ⟨w.heap.size, 1, none⟩ = some (.bool b) ∧ w'.cell? ⟨w.heap.size, 2, none⟩ = some (.int .i64 n) ∧ w'.cell? ⟨w.heap.size, 3, none⟩ = some (.string s)) (first | (go_split_ands; refine ⟨?_, ?_, ?_, ?_⟩ <;> (rw [hb1.cell (by simp)]; simp)) | go_keep)
   ((go_at_call 163; refine (cB2.out _).mono ?_; rintro e w1 ⟨rfl, hb1⟩))
  have c3 : w1.cell? ⟨w.heap.size, 3, none⟩ = some (.string s) := by rw [hb1.cell (by simp)]; simp
  have hlt : w.heap.size < w1.heap.size := by have := hb1.size; simp at this; omega
  have hbel : Below w.heap.size w w1 := (below_drewN ((Below.refl _ _).alloc (Nat.le_refl _) _) 1).trans (hb1.mono (by simp))
  have HB : Hid (Below w.heap.size w w1) := hbel
  clear hbel
  go_wp2_with (go_at_call 164; refine (cU.out _ HB.out).mono ?_; rintro e w2 ⟨rfl, hb2⟩)
  go_ret
  exact ⟨rfl, HB.out.trans (hb2.mono HB.out.size)⟩
theorem check_any (v : Val) (w : World) (hs : v.s.size ≤ 9223372036854775807) (hT : Lib.Utf8Tabs 0 1 w) :
  Calls Tryz.prog 160 #[v.agg] w fun e w' => e = .returned (.int .i64 (chkV v)) ∧ Below w.heap.size w w' := by
 obtain ⟨k, b, n, s⟩ := v
 by_cases hk : 4 ≤ k
 ·refine (check_big k b n s w hk (by simpa using hk)).mono ?_
  rintro e w' ⟨rfl, hb⟩
  exact ⟨by unfold chkV; rw [if_pos (.inl hk)], hb⟩
 ·have hd : decide (4 ≤ k) = false := by simpa using hk
  cases t : sameV ⟨k, b, n, s⟩ (Val.bare ⟨k, b, n, s⟩)
  ·refine (check_typ k b n s w hk hd t).mono ?_
   rintro e w' ⟨rfl, hb⟩
   exact ⟨by unfold chkV; rw [if_pos (.inr t)], hb⟩
  ·refine (check_fit k b n s w hs hT hk hd t).mono ?_
   rintro e w' ⟨rfl, hb⟩
   have hc : ¬ (4 ≤ (⟨k, b, n, s⟩ : Val).k ∨ sameV ⟨k, b, n, s⟩ (Val.bare ⟨k, b, n, s⟩) = false) := by
    rintro (h | h)
    ·exact hk h
    ·rw [t] at h; cases h
   exact ⟨by unfold chkV; rw [if_neg hc], hb⟩
end Go.Proofs.YtajomnfeicfdlaaGreatDoor
