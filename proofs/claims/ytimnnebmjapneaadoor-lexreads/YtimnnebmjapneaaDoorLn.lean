/- lives answers true. -/
import Derived.Test.YtimnnebmjapneaaDoorLm
namespace Go.Proofs.YtimnnebmjapneaaDoor
open Go.RowKit Go.Lib Go.Sort
set_option linter.unusedVariables false
set_option linter.unusedSimpArgs false
attribute [local go_sem ↓] Go.wp_at_zero Go.wp_at_succ

def liveText : List UInt8 := [40, 195, 169, 32, 34, 97, 92, 117, 123, 101, 57, 125, 34, 32, 45, 55, 41, 32, 59, 120]
def liveToks : List Tok := [⟨1, [], 0, 0⟩, ⟨3, [195, 169], 0, 1⟩, ⟨5, [97, 195, 169], 0, 3⟩, ⟨4, [], -7, 13⟩, ⟨2, [], 0, 15⟩]
theorem live1 : lexP liveText = (liveToks, 0, 0) := by kernel_rfl
theorem live2 : lexP [195, 169, 32, 48, 49] = ([], 13, 2) := by kernel_rfl
theorem live3 : showP ⟨5, [34, 10], 0, 0⟩ = ([34, 92, 34, 92, 117, 123, 97, 125, 34], 0) := by kernel_rfl
theorem own_cells {w w' : World} {v : Value} {ts : List Tok} (h : LexOut w w' v ts) (hne : ts ≠ []) : ∃ g cap, v = .slice (some ⟨g, 0, none⟩) ts.length cap ∧ g < w'.heap.size ∧ w.heap.size ≤ g ∧ ∀ j, j < ts.length * 4 → w'.cell? ⟨g, j, none⟩ = (flatK ts)[j]? := by
  have h' := h
  obtain ⟨h1, ⟨_, h2⟩ | ⟨g, cap, cur, rfl, hb, hg, _⟩⟩ := h
  · exact absurd (List.eq_nil_of_length_eq_zero h2) hne
  · exact ⟨g, cap, rfl, (Array.getElem?_eq_some_iff.1 hg).1, hb, fun j hj => World.ownsRow.cellAt h' j hj⟩
set_option maxRecDepth 100000 in
set_option maxHeartbeats 4000000 in
theorem lives_any (w : World) (hG : Glob2 w) : Calls Tryd.prog 8 #[] w fun e w' => e = .returned (.bool true) ∧ Below w.heap.size w w' := by
  have c1 := lex_any ⟨liveText.toArray⟩ w (by show (20 : Nat) ≤ _; omega) hG.1
  rw [show (⟨liveText.toArray⟩ : ByteArray).data.toList = liveText by simp, live1] at c1
  have C1 : Hid (Calls Tryd.prog 4 #[.string ⟨#[40, 195, 169, 32, 34, 97, 92, 117, 123, 101, 57, 125, 34, 32, 45, 55, 41, 32, 59, 120]⟩] w fun e w' => ∃ v, e = .returned (.tuple #[v, .int .i64 0, .int .i64 0]) ∧ LexOut w w' v liveToks ∧ Below w.heap.size w w') := c1
  have C2 : Hid (∀ W, Below w.heap.size w W → Calls Tryd.prog 4 #[.string ⟨#[195, 169, 32, 48, 49]⟩] W fun e w' => ∃ v, e = .returned (.tuple #[v, .int .i64 13, .int .i64 2]) ∧ Below W.heap.size W w') := fun W h => by
    have c2 := lex_any ⟨#[195, 169, 32, 48, 49]⟩ W (by show (5 : Nat) ≤ _; omega) (hG.below h).1
    rw [show (⟨#[195, 169, 32, 48, 49]⟩ : ByteArray).data.toList = [195, 169, 32, 48, 49] from rfl, live2] at c2
    exact c2.mono fun _ _ ⟨v, h1, _, h3⟩ => ⟨v, h1, h3⟩
  have C3 : Hid (∀ W, Below w.heap.size w W → Calls Tryd.prog 6 #[.agg #[.int .u8 5, .string ⟨#[34, 10]⟩, .int .i64 0, .int .i64 0]] W fun e w' => e = .returned (.tuple #[.string ⟨#[34, 92, 34, 92, 117, 123, 97, 125, 34]⟩, .int .i64 0]) ∧ Below W.heap.size W w') := fun W h => by
    have c3 := show_any ⟨5, [34, 10], 0, 0⟩ W (by simp) (by simp) (by simp) (hG.below h)
    rw [live3] at c3
    exact c3
  clear c1 hG
  go_enter Tryd.func8, Tryd.ntmps8
  go_wp2_with fail
  refine C1.out.mono ?_
  rintro e w1 ⟨v, rfl, ho, hb1⟩
  obtain ⟨g, cap, rfl, hg, _, hc⟩ := own_cells ho (by simp [liveToks])
  have HB1 : Hid (Below w.heap.size w w1) := hb1
  have HC : Hid (∀ W, Below w1.heap.size w1 W → ∀ j, j < 20 → W.cell? ⟨g, j, none⟩ = (flatK liveToks)[j]?) := fun W h j hj => by rw [h.cell (p := ⟨g, j, none⟩) hg]; exact hc j hj
  have hlen : liveToks.length = 5 := rfl
  rw [hlen]
  clear ho hb1 hc C1
  go_wp2_with fail
  refine (C2.out _ HB1.out).mono ?_
  rintro e w2 ⟨v2, rfl, hb2⟩
  have HB2 : Hid (Below w1.heap.size w1 w2) := hb2
  have HB2' : Hid (Below w.heap.size w w2) := HB1.out.trans (hb2.mono HB1.out.size)
  clear hb2 C2
  go_wp2_with fail
  refine (C3.out _ HB2'.out).mono ?_
  rintro e w3 ⟨rfl, hb3⟩
  have HB3 : Hid (Below w1.heap.size w1 w3) := HB2.out.trans (hb3.mono HB2.out.size)
  have HB3' : Hid (Below w.heap.size w w3) := HB1.out.trans (HB3.out.mono HB1.out.size)
  have k5 : w3.cell? ⟨g, 5, none⟩ = some (.string ⟨#[195, 169]⟩) := HC.out w3 HB3.out 5 (by omega)
  have k9 : w3.cell? ⟨g, 9, none⟩ = some (.string ⟨#[97, 195, 169]⟩) := HC.out w3 HB3.out 9 (by omega)
  have k14 : w3.cell? ⟨g, 14, none⟩ = some (.int .i64 (-7)) := HC.out w3 HB3.out 14 (by omega)
  have k15 : w3.cell? ⟨g, 15, none⟩ = some (.int .i64 13) := HC.out w3 HB3.out 15 (by omega)
  have k16 : w3.cell? ⟨g, 16, none⟩ = some (.int .u8 2) := HC.out w3 HB3.out 16 (by omega)
  clear hb3 C3 HB2 HB2' HB1 HB3 HC
  go_wp2_with fail
  go_ret
  exact ⟨rfl, HB3'.out⟩
end Go.Proofs.YtimnnebmjapneaaDoor
