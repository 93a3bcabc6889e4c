/- The law ValueTables returns true, of any table and any row. -/
import Derived.Test.YtbhpocjgbccpnaaDoorTg
namespace Go.Proofs.YtbhpocjgbccpnaaDoor
open Go.RowKit Go.Lib
set_option linter.unusedVariables false
attribute [local go_sem ↓] Go.wp_at_zero Go.wp_at_succ
theorem RowsA.below {w W : World} {p : Option Addr} {rs : List (List Val)} (h : RowsA w p rs) (hb : Below w.heap.size w W) : RowsA W p rs := by
  refine ⟨h.1, fun h0 => ?_⟩
  obtain ⟨b, o, rfl, hlt, hx⟩ := h.2 h0
  refine ⟨b, o, rfl, Nat.lt_of_lt_of_le hlt hb.size, fun j hj => ?_⟩
  obtain ⟨q, m, d, hc, hr⟩ := hx j hj
  exact ⟨q, m, d, by rw [hb.cell hlt]; exact hc, hr.below hb⟩
set_option maxHeartbeats 16000000 in
set_option maxRecDepth 100000 in
theorem tables_core (s : ByteArray) (pc : Option Addr) (mc cc : Nat) (cs : List Col) (pr : Option Addr) (cr : Nat) (rs : List (List Val)) (q : Option Addr) (m d : Nat) (xs : List Val) (w : World) (hT : Lib.Utf8Tabs 0 1 w) (hs : s.size ≤ 9223372036854775807)
    (hc : ColA w (.slice pc mc cc) cs) (hr : RowsA w pr rs) (hx : RowA w (.slice q m d) xs) :
    Calls Tryd.prog 4 #[.agg #[.string s, .slice pc mc cc, .slice pr rs.length cr], .slice q m d] w fun e w' => e = .returned (.bool true) ∧ Below w.heap.size w w' := by
  obtain ⟨W0, hW0⟩ : ∃ W0, w.alloc (.cells #[.string s, .slice pc mc cc, .slice pr rs.length cr] 36) = W0 := ⟨_, rfl⟩
  have hb0 : Below w.heap.size w W0 := by rw [← hW0]; exact (Below.refl _ _).alloc (Nat.le_refl _) _
  have x0 : W0.cell? ⟨w.heap.size, 0, none⟩ = some (.string s) := by rw [← hW0]; simp
  have x1 : W0.cell? ⟨w.heap.size, 1, none⟩ = some (.slice pc mc cc) := by rw [← hW0]; simp
  have x2 : W0.cell? ⟨w.heap.size, 2, none⟩ = some (.slice pr rs.length cr) := by rw [← hW0]; simp
  have hz : W0.heap.size = w.heap.size + 1 := by rw [← hW0, size_at]
  have px0 : ∀ p : Later W0.heap.size W0, p.w.cell? ⟨w.heap.size, 0, none⟩ = some (.string s) := fun p => by rw [p.h.cell (by simp; omega)]; exact x0
  have px1 : ∀ p : Later W0.heap.size W0, p.w.cell? ⟨w.heap.size, 1, none⟩ = some (.slice pc mc cc) := fun p => by rw [p.h.cell (by simp; omega)]; exact x1
  have px2 : ∀ p : Later W0.heap.size W0, p.w.cell? ⟨w.heap.size, 2, none⟩ = some (.slice pr rs.length cr) := fun p => by rw [p.h.cell (by simp; omega)]; exact x2
  have bl : ∀ p : Later W0.heap.size W0, Below w.heap.size w p.w := fun p => hb0.trans (p.h.mono hb0.size)
  have tb : ∀ p : Later W0.heap.size W0, Lib.Utf8Tabs 0 1 p.w := fun p => Utf8Tabs_below hT (bl p)
  obtain ⟨tv, htv⟩ : ∃ c, tableV s cs rs = c := ⟨_, rfl⟩
  obtain ⟨cv, hcv⟩ : ∃ c, colsV cs = c := ⟨_, rfl⟩
  obtain ⟨rv, hrv⟩ : ∃ c, rowV xs cs = c := ⟨_, rfl⟩
  have LV : Hid (∀ p : Later W0.heap.size W0, Calls Tryd.prog 9 #[] p.w fun e w' => e = .returned (.bool true) ∧ Below p.w.heap.size p.w w') := fun p => lives_any p.w (tb p)
  have T1 : Hid (∀ p : Later W0.heap.size W0, Calls Tryd.prog 18 #[.agg #[.string s, .slice pc mc cc, .slice pr rs.length cr]] p.w fun e w' => e = .returned (.int .i64 tv) ∧ Below p.w.heap.size p.w w') := fun p =>
    table_core s pc mc cc cs pr cr rs p.w hs (tb p) (hc.below (bl p)) (hr.below (bl p)) tv htv
  have T2 : Hid (∀ p : Later W0.heap.size W0, Calls Tryd.prog 19 #[.agg #[.string s, .slice pc mc cc, .slice pr rs.length cr]] p.w fun e w' => e = .returned (.int .i64 tv) ∧ Below p.w.heap.size p.w w') := fun p =>
    tableRef_core s pc mc cc cs pr cr rs p.w (hc.below (bl p)) (hr.below (bl p)) tv htv
  have C1 : Hid (∀ p : Later W0.heap.size W0, Calls Tryd.prog 20 #[.slice pc mc cc] p.w fun e w' => e = .returned (.int .i64 cv) ∧ Below p.w.heap.size p.w w') := fun p => by rw [← hcv]; exact cols_all (hc.below (bl p)) (tb p)
  have C2 : Hid (∀ p : Later W0.heap.size W0, Calls Tryd.prog 21 #[.slice pc mc cc] p.w fun e w' => e = .returned (.int .i64 cv) ∧ Below p.w.heap.size p.w w') := fun p => by rw [← hcv]; exact colsRef_all (hc.below (bl p))
  have R1 : Hid (∀ p : Later W0.heap.size W0, Calls Tryd.prog 22 #[.slice q m d, .slice pc mc cc] p.w fun e w' => e = .returned (.int .i64 rv) ∧ Below p.w.heap.size p.w w') := fun p => by rw [← hrv]; exact row_all (hx.below (bl p)) (hc.below (bl p)) (tb p)
  have R2 : Hid (∀ p : Later W0.heap.size W0, Calls Tryd.prog 23 #[.slice q m d, .slice pc mc cc] p.w fun e w' => e = .returned (.int .i64 rv) ∧ Below p.w.heap.size p.w w') := fun p => by rw [← hrv]; exact rowRef_all (hx.below (bl p)) (hc.below (bl p))
  have HB0 : Hid (Below w.heap.size w W0) := hb0
  have HW0 : Hid (w.alloc (.cells #[.string s, .slice pc mc cc, .slice pr rs.length cr] 36) = W0) := hW0
  haveI : Inhabited (Later W0.heap.size W0) := ⟨⟨W0, Below.refl _ _⟩⟩
  clear hT hs hc hr hx hW0 hb0 x0 x1 x2 hz bl tb htv hcv hrv
  go_enter Tryd.func4, Tryd.ntmps4
  go_wp2_with fail
  rw [HW0.out]
  clear HW0
  refine wp_region_later mixedOn (by kernel_rfl) ?_
  repeat (go_big_quiet_step ((first
    | (go_at_call 9; exact calls_later (LV.out _))
    | (go_at_call 18; exact calls_later (T1.out _))
    | (go_at_call 19; exact calls_later (T2.out _))
    | (go_at_call 20; exact calls_later (C1.out _))
    | (go_at_call 21; exact calls_later (C2.out _))
    | (go_at_call 22; exact calls_later (R1.out _))
    | (go_at_call 23; exact calls_later (R2.out _)))))
  refine wpQuiet_nil ?_
  intro _ hw'
  obtain ⟨⟨wq, hwq⟩, hw''⟩ := hw'
  subst hw''
  go_wp2_with fail
  go_ret
  exact ⟨rfl, HB0.out.trans (hwq.mono HB0.out.size)⟩
end Go.Proofs.YtbhpocjgbccpnaaDoor
