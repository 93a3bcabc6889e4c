/- Changes: what move answers. -/
import Derived.Test.YtedjfbkpebmggaaDk
namespace Go.Proofs.Ytedjfbkpebmggaa
open Go.Shelf Go.RowKit Go.Lib Go.Sort
set_option linter.unusedVariables false
set_option linter.unusedSimpArgs false
attribute [local go_sem ↓] Go.wp_at_zero Go.wp_at_succ
set_option maxRecDepth 100000 in
set_option maxHeartbeats 2000000 in
theorem move_any (v : Value) (kk : Int) (nm tt dt : ByteArray) (fs : List DF) (w : World) (h : FsL w v fs) (hu : Up fs) (hm : (fs.length + 1) * 40 ≤ 140737488355328) (hf : tt.size ≤ 140737488355328) :
    Calls Try.prog 41 #[.agg #[v, .int .u8 kk, .string nm, .string tt, .string dt]] w fun e w' => ∃ u, e = .returned (.tuple #[u, .int .i64 (movE fs nm tt)]) ∧ (movE fs nm tt = 0 → FsL w' u (movF fs nm tt)) ∧ Below w.heap.size w w' := by
  obtain ⟨W0, hW0, hb0, hlt0, hx⟩ := chbox w v kk nm tt dt
  have HX : Hid (∀ W, Below W0.heap.size W0 W → W.cell? ⟨w.heap.size, 0, none⟩ = some v ∧ W.cell? ⟨w.heap.size, 2, none⟩ = some (.string nm) ∧ W.cell? ⟨w.heap.size, 3, none⟩ = some (.string tt) ∧ W.cell? ⟨w.heap.size, 4, none⟩ = some (.string dt)) := hx
  obtain ⟨x0, x1, _, x3⟩ := hx W0 (Below.refl _ _)
  have HB0 : Hid (Below w.heap.size w W0) := hb0
  have C1 : Hid (Calls Try.prog 28 #[v, .string nm] W0 fun e w' => e = .returned (.tuple #[.agg #[.string (fnd nm fs).n, .string (fnd nm fs).d, .int .i64 (fnd nm fs).y], .bool (has nm fs)]) ∧ Below W0.heap.size W0 w') := find_any v nm fs W0 (h.below hb0) hu
  have hsm := fnd_small (nm := nm) h.small
  have hwl := wo_length nm fs
  have C2 : Hid (∀ W, Below W0.heap.size W0 W → Calls Try.prog 44 #[v, .string nm] W fun e w' => ∃ u, e = .returned u ∧ FsL w' u (wo nm fs) ∧ Below W.heap.size W w') := fun W hb => (without_any v nm fs W ((h.below hb0).below hb)).mono fun e w' ⟨u, he, ho, hb⟩ => ⟨u, he, ho.files (by have := h.many; omega) (wo_small h.small), hb⟩
  have C3 : Hid (∀ u W, FsL W u (wo nm fs) → Calls Try.prog 46 #[u, .agg #[.string tt, .string (fnd nm fs).d, .int .i64 (fnd nm fs).y]] W fun e w' => ∃ u, e = .returned u ∧ FsL w' u (movF fs nm tt) ∧ Below W.heap.size W w') := fun u W hx => with_any u _ _ _ _ W hx (hu.wo nm) (by omega) ⟨hf, hsm.2⟩
  obtain ⟨p, c, rfl, _⟩ := h
  obtain ⟨⟨n, d, y⟩, hfd⟩ : ∃ f, fnd nm fs = f := ⟨_, rfl⟩
  rw [hfd] at C1 C3
  clear hx hu hfd hsm
  cases hh : has nm fs
  · have HE : Hid (movE fs nm tt = 7) := by unfold movE; rw [hh]; rfl
    rw [hh] at C1
    clear hh
    go_enter Try.func41, Try.ntmps41
    go_wp2_with fail
    refine C1.out.mono ?_
    rintro e w1 ⟨rfl, hb1⟩
    have HB2 : Hid (Below w.heap.size w (w1.alloc (.cells #[.string n, .string d, .int .i64 y] 41))) := (HB0.out.trans (hb1.mono HB0.out.size)).alloc (Nat.le_trans HB0.out.size hb1.size) _
    clear hb1 C1
    go_wp2_with fail
    go_ret2
    exact ⟨_, by rw [HE.out]; rfl, by rw [HE.out]; intro h; omega, HB2.out⟩
  · rw [hh] at C1
    by_cases et : tt = ⟨#[]⟩
    · have HE : Hid (movE fs nm tt = 7) := by unfold movE; rw [hh, if_pos et]; rfl
      subst et
      clear hh
      go_enter Try.func41, Try.ntmps41
      go_wp2_with fail
      refine C1.out.mono ?_
      rintro e w1 ⟨rfl, hb1⟩
      obtain ⟨W2, hW2⟩ : ∃ W2, w1.alloc (.cells #[.string n, .string d, .int .i64 y] 41) = W2 := ⟨_, rfl⟩
      have hb2 : Below W0.heap.size W0 W2 := by rw [← hW2]; exact hb1.alloc hb1.size _
      obtain ⟨_, _, y2, _⟩ := HX.out W2 hb2
      have HB2 : Hid (Below w.heap.size w W2) := HB0.out.trans (hb2.mono HB0.out.size)
      clear hb1 C1 hb2
      go_wp2_with fail
      go_ret2
      exact ⟨_, by rw [HE.out]; rfl, by rw [HE.out]; intro h; omega, HB2.out⟩
    · have HE : Hid (movE fs nm tt = 0) := by unfold movE; rw [hh, if_neg et]; rfl
      obtain ⟨ne1, ne2⟩ := ne_empty et
      clear hh et
      go_enter Try.func41, Try.ntmps41
      go_wp2_with fail
      refine C1.out.mono ?_
      rintro e w1 ⟨rfl, hb1⟩
      obtain ⟨W2, hW2⟩ : ∃ W2, w1.alloc (.cells #[.string n, .string d, .int .i64 y] 41) = W2 := ⟨_, rfl⟩
      have hg2 : W2.heap[w1.heap.size]? = some (.cells #[.string n, .string d, .int .i64 y] 41 (0, 0)) := by rw [← hW2]; exact heap_alloc_new w1 _
      have hb2 : Below W0.heap.size W0 W2 := by rw [← hW2]; exact hb1.alloc hb1.size _
      obtain ⟨_, _, y2, _⟩ := HX.out W2 hb2
      obtain ⟨⟨o2, c2⟩, f2, hg3, hb3⟩ := set_row hg2 (k := 0) (by simp) (.string tt)
      obtain ⟨W3, hW3⟩ : ∃ W3, W2.setCell ⟨w1.heap.size, 0, none⟩ (.string tt) = W3 := ⟨_, rfl⟩
      rw [hW3] at hg3 hb3
      have hb3' : Below W0.heap.size W0 W3 := hb3 _ _ hb2 hb1.size
      have hw1 : w1.heap.size < W3.heap.size := (Array.getElem?_eq_some_iff.1 hg3).1
      have hw0 : w.heap.size < W3.heap.size := Nat.lt_of_lt_of_le hlt0 hb3'.size
      have d0 : W3.cell? ⟨w1.heap.size, 0, none⟩ = some (.string tt) := cell_of_row hg3 rfl
      have d1 : W3.cell? ⟨w1.heap.size, 1, none⟩ = some (.string d) := cell_of_row hg3 rfl
      have d2 : W3.cell? ⟨w1.heap.size, 2, none⟩ = some (.int .i64 y) := cell_of_row hg3 rfl
      have HB3 : Hid (Below w.heap.size w W3) := HB0.out.trans (hb3'.mono HB0.out.size)
      obtain ⟨y0, y1, _, _⟩ := HX.out W3 hb3'
      have C4 : Hid (Calls Try.prog 44 #[.slice p fs.length c, .string nm] W3.drew fun e w' => ∃ u, e = .returned u ∧ FsL w' u (wo nm fs) ∧ Below W3.heap.size W3 w') := (C2.out W3.drew hb3'.drew).mono fun e w' ⟨u, he, hl, hb⟩ => ⟨u, he, hl, (Below.refl _ W3).drew.trans hb⟩
      clear hb1 C1 C2 hb2 x0 x1 x3 hb3 hb3' hg2 hg3
      go_wp2_with fail
      have e0 : W3.drew.cell? ⟨w1.heap.size, 0, none⟩ = some (.string tt) := d0
      have e1 : W3.drew.cell? ⟨w1.heap.size, 1, none⟩ = some (.string d) := d1
      have e2 : W3.drew.cell? ⟨w1.heap.size, 2, none⟩ = some (.int .i64 y) := d2
      have e3 : W3.drew.cell? ⟨w.heap.size, 0, none⟩ = some (.slice p fs.length c) := y0
      have e4 : W3.drew.cell? ⟨w.heap.size, 2, none⟩ = some (.string nm) := y1
      go_region_held3 (fun w' => w'.cell? ⟨w1.heap.size, 0, none⟩ = some (.string tt) ∧ w'.cell? ⟨w1.heap.size, 1, none⟩ = some (.string d) ∧ w'.cell? ⟨w1.heap.size, 2, none⟩ = some (.int .i64 y) ∧ w'.cell? ⟨w.heap.size, 0, none⟩ = some (.slice p fs.length c) ∧ w'.cell? ⟨w.heap.size, 2, none⟩ = some (.string nm))
        (first | (go_split_ands; refine ⟨?_, ?_, ?_, ?_, ?_⟩ <;> (first | (rw [hBa.cell (by first | exact hw1 | exact hw0)]; assumption) | (rw [hBb.cell (p := ⟨w1.heap.size, _, none⟩) (Nat.lt_of_lt_of_le hw1 hBa.size)]; assumption) | (rw [hBb.cell (p := ⟨w.heap.size, _, none⟩) (Nat.lt_of_lt_of_le hw0 hBa.size)]; assumption))) | go_keep)
        ((first
          | (go_at_call 44; refine C4.out.mono ?_; rintro e wa ⟨ua, rfl, hLa, hBa⟩)
          | (go_at_call 46; refine (C3.out _ _ hLa).mono ?_; rintro e wb ⟨ub, rfl, hLb, hBb⟩)))
      have HF : Hid (FsL wb ub (movF fs nm tt) ∧ Below w.heap.size w wb) := ⟨hLb, HB3.out.trans ((hBa.trans (hBb.mono hBa.size)).mono HB3.out.size)⟩
      clear hLa hBa hLb hBb C3 C4
      go_wp2_with fail
      go_ret2
      exact ⟨_, by rw [HE.out]; rfl, fun _ => HF.out.1, HF.out.2⟩
end Go.Proofs.Ytedjfbkpebmggaa
