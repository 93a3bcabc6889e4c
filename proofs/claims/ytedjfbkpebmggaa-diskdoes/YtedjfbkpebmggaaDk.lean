/- Changes: what sync, drop and move answer. -/
import Derived.Test.YtedjfbkpebmggaaDj
namespace Go.Proofs.Ytedjfbkpebmggaa
open Go.Shelf Go.RowKit Go.Lib Go.Sort
set_option linter.unusedVariables false
set_option linter.unusedSimpArgs false
attribute [local go_sem ↓] Go.wp_at_zero Go.wp_at_succ
def synE (fs : List DF) (nm : ByteArray) : Int := if has nm fs then 0 else 7
def synF (fs : List DF) (nm : ByteArray) : List DF := wi ⟨(fnd nm fs).n, (fnd nm fs).d, ((fnd nm fs).d.size : Int)⟩ fs
def movE (fs : List DF) (nm tt : ByteArray) : Int := if has nm fs then (if tt = ⟨#[]⟩ then 7 else 0) else 7
def movF (fs : List DF) (nm tt : ByteArray) : List DF := wi ⟨tt, (fnd nm fs).d, (fnd nm fs).y⟩ (wo nm fs)
theorem fnd_small {nm : ByteArray} {fs : List DF} (h : SmallF fs) : (fnd nm fs).n.size ≤ 140737488355328 ∧ (fnd nm fs).d.size ≤ 140737488355328 := by
  cases hh : has nm fs with
  | true => exact h _ (fnd_mem hh).1
  | false => rw [fnd_none hh]; exact ⟨(show (0 : Nat) ≤ _ from Nat.zero_le _), (show (0 : Nat) ≤ _ from Nat.zero_le _)⟩
set_option maxRecDepth 100000 in
set_option maxHeartbeats 2000000 in
theorem drop_any (v : Value) (kk : Int) (nm tt dt : ByteArray) (fs : List DF) (w : World) (h : FsL w v fs) (hu : Up fs) :
    Calls Try.prog 42 #[.agg #[v, .int .u8 kk, .string nm, .string tt, .string dt]] w fun e w' => ∃ u, e = .returned (.tuple #[u, .int .i64 (synE fs nm)]) ∧ (synE fs nm = 0 → FsL w' u (wo nm fs)) ∧ Below w.heap.size w w' := by
  obtain ⟨W0, hW0, hb0, hlt0, hx⟩ := chbox w v kk nm tt dt
  have HX : Hid (∀ W, Below W0.heap.size W0 W → W.cell? ⟨w.heap.size, 0, none⟩ = some v ∧ W.cell? ⟨w.heap.size, 2, none⟩ = some (.string nm) ∧ W.cell? ⟨w.heap.size, 3, none⟩ = some (.string tt) ∧ W.cell? ⟨w.heap.size, 4, none⟩ = some (.string dt)) := hx
  obtain ⟨x0, x1, _, x3⟩ := hx W0 (Below.refl _ _)
  have HB0 : Hid (Below w.heap.size w W0) := hb0
  have C1 : Hid (Calls Try.prog 28 #[v, .string nm] W0 fun e w' => e = .returned (.tuple #[.agg #[.string (fnd nm fs).n, .string (fnd nm fs).d, .int .i64 (fnd nm fs).y], .bool (has nm fs)]) ∧ Below W0.heap.size W0 w') := find_any v nm fs W0 (h.below hb0) hu
  have C2 : Hid (∀ W, Below W0.heap.size W0 W → Calls Try.prog 44 #[v, .string nm] W fun e w' => ∃ u, e = .returned u ∧ FsL w' u (wo nm fs) ∧ Below W.heap.size W w') := fun W hb => (without_any v nm fs W ((h.below hb0).below hb)).mono fun e w' ⟨u, he, ho, hb⟩ => ⟨u, he, ho.files (by have := wo_length nm fs; have := h.many; omega) (wo_small h.small), hb⟩
  obtain ⟨p, c, rfl, _⟩ := h
  obtain ⟨⟨n, d, y⟩, hfd⟩ : ∃ f, fnd nm fs = f := ⟨_, rfl⟩
  rw [hfd] at C1
  clear hx hu hfd
  cases hh : has nm fs
  · have HE : Hid (synE fs nm = 7) := by unfold synE; rw [hh]; rfl
    rw [hh] at C1
    clear hh
    go_enter Try.func42, Try.ntmps42
    go_wp2_with fail
    refine C1.out.mono ?_
    rintro e w1 ⟨rfl, hb1⟩
    have HB2 : Hid (Below w.heap.size w (w1.alloc (.cells #[.string n, .string d, .int .i64 y] 41))) := (HB0.out.trans (hb1.mono HB0.out.size)).alloc (Nat.le_trans HB0.out.size hb1.size) _
    clear hb1 C1
    go_wp2_with fail
    go_ret2
    exact ⟨_, by rw [HE.out]; rfl, by rw [HE.out]; intro h; omega, HB2.out⟩
  · have HE : Hid (synE fs nm = 0) := by unfold synE; rw [hh]; rfl
    rw [hh] at C1
    clear hh
    go_enter Try.func42, Try.ntmps42
    go_wp2_with fail
    refine C1.out.mono ?_
    rintro e w1 ⟨rfl, hb1⟩
    obtain ⟨W2, hW2⟩ : ∃ W2, w1.alloc (.cells #[.string n, .string d, .int .i64 y] 41) = W2 := ⟨_, rfl⟩
    have hb2 : Below W0.heap.size W0 W2 := by rw [← hW2]; exact hb1.alloc hb1.size _
    have HB2 : Hid (Below w.heap.size w W2) := HB0.out.trans (hb2.mono HB0.out.size)
    obtain ⟨y0, y1, _, _⟩ := HX.out W2 hb2
    have C3 : Hid (Calls Try.prog 44 #[.slice p fs.length c, .string nm] W2 fun e w' => ∃ u, e = .returned u ∧ FsL w' u (wo nm fs) ∧ Below W2.heap.size W2 w') := C2.out W2 hb2
    clear hb1 C1 C2 hb2 x0 x1 x3
    go_wp2_with fail
    refine C3.out.mono ?_
    rintro e w3 ⟨u3, rfl, h3, hb3⟩
    have HF : Hid (FsL w3 u3 (wo nm fs) ∧ Below w.heap.size w w3) := ⟨h3, HB2.out.trans (hb3.mono HB2.out.size)⟩
    clear h3 hb3 C3
    go_wp2_with fail
    go_ret2
    exact ⟨_, by rw [HE.out]; rfl, fun _ => HF.out.1, HF.out.2⟩
set_option maxRecDepth 100000 in
set_option maxHeartbeats 2000000 in
theorem sync_any (v : Value) (kk : Int) (nm tt dt : ByteArray) (fs : List DF) (w : World) (h : FsL w v fs) (hu : Up fs) (hm : (fs.length + 1) * 40 ≤ 140737488355328) :
    Calls Try.prog 40 #[.agg #[v, .int .u8 kk, .string nm, .string tt, .string dt]] w fun e w' => ∃ u, e = .returned (.tuple #[u, .int .i64 (synE fs nm)]) ∧ (synE fs nm = 0 → FsL w' u (synF fs nm)) ∧ Below w.heap.size w w' := by
  obtain ⟨W0, hW0, hb0, hlt0, hx⟩ := chbox w v kk nm tt dt
  have HX : Hid (∀ W, Below W0.heap.size W0 W → W.cell? ⟨w.heap.size, 0, none⟩ = some v ∧ W.cell? ⟨w.heap.size, 2, none⟩ = some (.string nm) ∧ W.cell? ⟨w.heap.size, 3, none⟩ = some (.string tt) ∧ W.cell? ⟨w.heap.size, 4, none⟩ = some (.string dt)) := hx
  obtain ⟨x0, x1, _, x3⟩ := hx W0 (Below.refl _ _)
  have HB0 : Hid (Below w.heap.size w W0) := hb0
  have C1 : Hid (Calls Try.prog 28 #[v, .string nm] W0 fun e w' => e = .returned (.tuple #[.agg #[.string (fnd nm fs).n, .string (fnd nm fs).d, .int .i64 (fnd nm fs).y], .bool (has nm fs)]) ∧ Below W0.heap.size W0 w') := find_any v nm fs W0 (h.below hb0) hu
  have hsm := fnd_small (nm := nm) h.small
  have C2 : Hid (∀ W, Below W0.heap.size W0 W → Calls Try.prog 46 #[v, .agg #[.string (fnd nm fs).n, .string (fnd nm fs).d, .int .i64 ((fnd nm fs).d.size : Int)]] W fun e w' => ∃ u, e = .returned u ∧ FsL w' u (synF fs nm) ∧ Below W.heap.size W w') := fun W hb => with_any v _ _ _ fs W ((h.below hb0).below hb) hu hm hsm
  obtain ⟨p, c, rfl, _⟩ := h
  obtain ⟨⟨n, d, y⟩, hfd⟩ : ∃ f, fnd nm fs = f := ⟨_, rfl⟩
  rw [hfd] at C1 C2
  clear hx hu hfd hsm
  cases hh : has nm fs
  · have HE : Hid (synE fs nm = 7) := by unfold synE; rw [hh]; rfl
    rw [hh] at C1
    clear hh
    go_enter Try.func40, Try.ntmps40
    go_wp2_with fail
    refine C1.out.mono ?_
    rintro e w1 ⟨rfl, hb1⟩
    have HB2 : Hid (Below w.heap.size w (w1.alloc (.cells #[.string n, .string d, .int .i64 y] 41))) := (HB0.out.trans (hb1.mono HB0.out.size)).alloc (Nat.le_trans HB0.out.size hb1.size) _
    clear hb1 C1
    go_wp2_with fail
    go_ret2
    exact ⟨_, by rw [HE.out]; rfl, by rw [HE.out]; intro h; omega, HB2.out⟩
  · have HE : Hid (synE fs nm = 0) := by unfold synE; rw [hh]; rfl
    rw [hh] at C1
    clear hh
    go_enter Try.func40, Try.ntmps40
    go_wp2_with fail
    refine C1.out.mono ?_
    rintro e w1 ⟨rfl, hb1⟩
    obtain ⟨W2, hW2⟩ : ∃ W2, w1.alloc (.cells #[.string n, .string d, .int .i64 y] 41) = W2 := ⟨_, rfl⟩
    have hg2 : W2.heap[w1.heap.size]? = some (.cells #[.string n, .string d, .int .i64 y] 41 (0, 0)) := by rw [← hW2]; exact heap_alloc_new w1 _
    have hb2 : Below W0.heap.size W0 W2 := by rw [← hW2]; exact hb1.alloc hb1.size _
    obtain ⟨⟨o2, c2⟩, f2, hg3, hb3⟩ := set_row hg2 (k := 2) (by simp) (.int .i64 (d.size : Int))
    have c1 : W2.cell? ⟨w1.heap.size, 1, none⟩ = some (.string d) := cell_of_row hg2 rfl
    obtain ⟨W3, hW3⟩ : ∃ W3, W2.setCell ⟨w1.heap.size, 2, none⟩ (.int .i64 (d.size : Int)) = W3 := ⟨_, rfl⟩
    rw [hW3] at hg3 hb3
    have hb3' : Below W0.heap.size W0 W3 := hb3 _ _ hb2 hb1.size
    have d0 : W3.cell? ⟨w1.heap.size, 0, none⟩ = some (.string n) := cell_of_row hg3 rfl
    have d1 : W3.cell? ⟨w1.heap.size, 1, none⟩ = some (.string d) := cell_of_row hg3 rfl
    have d2 : W3.cell? ⟨w1.heap.size, 2, none⟩ = some (.int .i64 (d.size : Int)) := cell_of_row hg3 rfl
    have HB3 : Hid (Below w.heap.size w W3) := HB0.out.trans (hb3'.mono HB0.out.size)
    obtain ⟨y0, y1, _, _⟩ := HX.out W3 hb3'
    have C3 : Hid (Calls Try.prog 46 #[.slice p fs.length c, .agg #[.string n, .string d, .int .i64 (d.size : Int)]] W3 fun e w' => ∃ u, e = .returned u ∧ FsL w' u (synF fs nm) ∧ Below W3.heap.size W3 w') := C2.out W3 hb3'
    clear hb1 C1 C2 hb2 x0 x1 x3 hb3 hb3' hg2 hg3
    go_wp2_with fail
    refine C3.out.mono ?_
    rintro e w3 ⟨u3, rfl, h3, hb3⟩
    have HF : Hid (FsL w3 u3 (synF fs nm) ∧ Below w.heap.size w w3) := ⟨h3, HB3.out.trans (hb3.mono HB3.out.size)⟩
    clear h3 hb3 C3
    go_wp2_with fail
    go_ret2
    exact ⟨_, by rw [HE.out]; rfl, fun _ => HF.out.1, HF.out.2⟩
end Go.Proofs.Ytedjfbkpebmggaa
