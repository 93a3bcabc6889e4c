/- What the reference's Same answers of equal tokens. -/
import Derived.Test.YtimnnebmjapneaaDoorPlacesWalk
namespace Go.Proofs.YtimnnebmjapneaaDoor
open Go.RowKit Go.Lib Go.Sort
set_option linter.unusedVariables false
set_option linter.unusedSimpArgs false
attribute [local go_sem ↓] Go.wp_at_zero Go.wp_at_succ

def TokAt (w : World) (v : Value) (ts : List Tok) : Prop := ∃ p c, v = .slice p ts.length c ∧ (ts ≠ [] → ∃ g, p = some ⟨g, 0, none⟩ ∧ g < w.heap.size ∧ ∀ j, j < ts.length * 4 → w.cell? ⟨g, j, none⟩ = (flatK ts)[j]?)
set_option maxRecDepth 100000 in
set_option maxHeartbeats 8000000 in
theorem same_any (w : World) (u v : Value) (ts : List Tok) (hu : TokAt w u ts) (hv : TokAt w v ts) (hl : ts.length ≤ 9223372036854775807) :
    Calls Tryd.prog 9 #[u, v] w fun e w' => e = .returned (.bool true) ∧ Below w.heap.size w w' := by
  obtain ⟨p, c, rfl, hp⟩ := hu
  obtain ⟨q, d, rfl, hq⟩ := hv
  have HP : Hid (ts ≠ [] → ∃ g, p = some ⟨g, 0, none⟩ ∧ g < w.heap.size ∧ ∀ j, j < ts.length * 4 → w.cell? ⟨g, j, none⟩ = (flatK ts)[j]?) := hp
  have HQ : Hid (ts ≠ [] → ∃ g, q = some ⟨g, 0, none⟩ ∧ g < w.heap.size ∧ ∀ j, j < ts.length * 4 → w.cell? ⟨g, j, none⟩ = (flatK ts)[j]?) := hq
  clear hp hq
  go_enter Tryd.func9, Tryd.ntmps9
  go_wp2_with fail
  go_loopg [13] ts.length (fun gf s13 wx => ∃ i : Nat, s13 = .int .i64 i ∧ Below w.heap.size w wx ∧ i ≤ ts.length ∧ ts.length ≤ i + gf)
  case atStart => exact ⟨0, rfl, Below.refl _ _, by omega, by omega⟩
  case round =>
    obtain ⟨i, rfl, hbw, hi1, hgf⟩ := hrel
    by_cases hi : i < ts.length
    · obtain ⟨g', rfl⟩ : ∃ g', gk = g' + 1 := ⟨gk - 1, by omega⟩
      have hne : ts ≠ [] := by intro e; rw [e] at hi; simp at hi
      obtain ⟨g1, rfl, hg1, hc1⟩ := HP.out hne
      obtain ⟨g2, rfl, hg2, hc2⟩ := HQ.out hne
      obtain ⟨q0, q1, q2, q3⟩ := flat_at ts i hi
      have x0 : wr.cell? ⟨g1, i * 4, none⟩ = some (.int .u8 ts[i].k) := by rw [hbw.cell (p := ⟨g1, _, none⟩) hg1]; exact (hc1 _ (by omega)).trans q0
      have x1 : wr.cell? ⟨g1, i * 4 + 1, none⟩ = some (.string ⟨ts[i].t.toArray⟩) := by rw [hbw.cell (p := ⟨g1, _, none⟩) hg1]; exact (hc1 _ (by omega)).trans q1
      have x2 : wr.cell? ⟨g1, i * 4 + 2, none⟩ = some (.int .i64 ts[i].n) := by rw [hbw.cell (p := ⟨g1, _, none⟩) hg1]; exact (hc1 _ (by omega)).trans q2
      have x3 : wr.cell? ⟨g1, i * 4 + 3, none⟩ = some (.int .i64 ts[i].a) := by rw [hbw.cell (p := ⟨g1, _, none⟩) hg1]; exact (hc1 _ (by omega)).trans q3
      have z0 : wr.cell? ⟨g2, i * 4, none⟩ = some (.int .u8 ts[i].k) := by rw [hbw.cell (p := ⟨g2, _, none⟩) hg2]; exact (hc2 _ (by omega)).trans q0
      have z1 : wr.cell? ⟨g2, i * 4 + 1, none⟩ = some (.string ⟨ts[i].t.toArray⟩) := by rw [hbw.cell (p := ⟨g2, _, none⟩) hg2]; exact (hc2 _ (by omega)).trans q1
      have z2 : wr.cell? ⟨g2, i * 4 + 2, none⟩ = some (.int .i64 ts[i].n) := by rw [hbw.cell (p := ⟨g2, _, none⟩) hg2]; exact (hc2 _ (by omega)).trans q2
      have z3 : wr.cell? ⟨g2, i * 4 + 3, none⟩ = some (.int .i64 ts[i].a) := by rw [hbw.cell (p := ⟨g2, _, none⟩) hg2]; exact (hc2 _ (by omega)).trans q3
      clear hc1 hc2 q0 q1 q2 q3 HP HQ
      have y0 : (i : Int) < (ts.length : Int) := by omega
      have y1 : (0 : Int) ≤ (i : Int) := by omega
      generalize ts[i] = t at *
      obtain ⟨tk, tt, tn, ta⟩ := t
      simp only at x0 x1 x2 x3 z0 z1 z2 z3
      have heq : ∀ W, (binOp .neq 24 (.agg #[.int .u8 tk, .string ⟨tt.toArray⟩, .int .i64 tn, .int .i64 ta]) (.agg #[.int .u8 tk, .string ⟨tt.toArray⟩, .int .i64 tn, .int .i64 ta])).run Tryd.prog W = .ok (.bool false) W := fun W => by
        have := tok_neq ⟨tk, tt, tn, ta⟩ ⟨tk, tt, tn, ta⟩ W
        rw [same_self] at this
        exact this
      go_wp2_with fail
      go_quiet (fail)
      go_wp2_with fail
      go_roundg g'
      case measure => omega
      case rel => exact ⟨i + 1, by go_num, below_drewN hbw _, by omega, by omega⟩
    · have hend : i = ts.length := by omega
      subst hend
      clear HP HQ
      go_wp2_with fail
      go_ret
      exact ⟨rfl, hbw⟩
end Go.Proofs.YtimnnebmjapneaaDoor
