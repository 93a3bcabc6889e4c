/- What Read answers. -/
import Derived.Test.YtedjfbkpebmggaaDr
namespace Go.Proofs.Ytedjfbkpebmggaa
open Go.Shelf Go.RowKit Go.Lib Go.Sort
set_option linter.unusedVariables false
set_option linter.unusedSimpArgs false
attribute [local go_sem ↓] Go.wp_at_zero Go.wp_at_succ
/-- Why nothing is read, and what is. -/
def rdE (fs : List DF) (dn : Bool) (nm : ByteArray) : Int := if okF fs = true then (if dn = true then 12 else if has nm fs = true then 0 else 7) else 6
def rdS (fs : List DF) (dn : Bool) (nm : ByteArray) : ByteArray := if okF fs = true then (if dn = true then ⟨#[]⟩ else (fnd nm fs).d) else ⟨#[]⟩
theorem box24 (w : World) (v : Value) (dn : Bool) (fu : Int) : ∃ W0, w.alloc (.cells #[v, .bool dn, .int .i64 fu] 24) = W0 ∧ Below w.heap.size w W0 ∧ W0.heap.size = w.heap.size + 1 ∧
    (∀ W, Below W0.heap.size W0 W → (W.cell? ⟨w.heap.size, 0, none⟩ = some v ∧ W.cell? ⟨w.heap.size, 1, none⟩ = some (.bool dn) ∧ W.cell? ⟨w.heap.size, 2, none⟩ = some (.int .i64 fu))) := by
  refine ⟨_, rfl, one_below _ _, by simp, fun W hb => ?_⟩
  have g0 : W.heap[w.heap.size]? = some (.cells #[v, .bool dn, .int .i64 fu] 24 (0, 0)) := by
    rw [hb.block _ (by simp)]; exact heap_alloc_new w _
  exact ⟨cell_of_row g0 rfl, cell_of_row g0 rfl, cell_of_row g0 rfl⟩
set_option maxRecDepth 100000 in
set_option maxHeartbeats 2000000 in
theorem Read_any (v : Value) (dn : Bool) (fu : Int) (nm : ByteArray) (fs : List DF) (w : World) (h : FsL w v fs) :
    Calls Try.prog 12 #[.agg #[v, .bool dn, .int .i64 fu], .string nm] w fun e w' => e = .returned (.tuple #[.string (rdS fs dn nm), .int .i64 (rdE fs dn nm)]) ∧ Below w.heap.size w w' := by
  obtain ⟨W0, hW0, hb0, hs0, hx⟩ := box24 w v dn fu
  have HX : Hid _ := hx
  have C1 : Hid (Calls Try.prog 18 #[.agg #[v, .bool dn, .int .i64 fu]] W0 fun e w' => e = .returned (.int .i64 (chE fs)) ∧ Below W0.heap.size W0 w') := check_any v dn fu fs W0 (h.below hb0)
  have HB0 : Hid (Below w.heap.size w W0) := hb0
  obtain ⟨x0, x1, x2⟩ := hx W0 (Below.refl _ _)
  have HFL : Hid (FsL w v fs) := h
  have hsm := fnd_small (nm := nm) h.small
  obtain ⟨p, c, rfl, _⟩ := h
  by_cases hok : okF fs = true
  · have hch : chE fs = 0 := by unfold chE; rw [if_pos hok]
    rw [hch] at C1
    have HO : Hid (OkF fs) := okF_iff.1 hok
    cases dn with
    | true =>
      have HE : Hid (rdE fs true nm = 12 ∧ rdS fs true nm = ⟨#[]⟩) := ⟨by unfold rdE; rw [if_pos hok, if_pos rfl], by unfold rdS; rw [if_pos hok, if_pos rfl]⟩
      clear hch hx hb0 hs0 hok hsm
      go_enter Try.func12, Try.ntmps12
      go_wp2_with fail
      refine C1.out.mono ?_
      rintro e w1 ⟨rfl, hb1⟩
      obtain ⟨a0, a1, a2⟩ := HX.out w1 hb1
      have HB : Hid (Below w.heap.size w w1) := HB0.out.trans (hb1.mono HB0.out.size)
      clear C1 hb1 x0 x1 x2
      go_wp2_with fail
      go_ret2
      exact ⟨by rw [HE.out.1, HE.out.2]; rfl, HB.out⟩
    | false =>
      have C2 : Hid (∀ W, Below w.heap.size w W → Calls Try.prog 28 #[.slice p fs.length c, .string nm] W fun e w' => e = .returned (.tuple #[.agg #[.string (fnd nm fs).n, .string (fnd nm fs).d, .int .i64 (fnd nm fs).y], .bool (has nm fs)]) ∧ Below W.heap.size W w') := fun W hb => find_any _ nm fs W (HFL.out.below hb) HO.out.2.1
      cases hh : has nm fs with
      | false =>
        have HE : Hid (rdE fs false nm = 7 ∧ rdS fs false nm = ⟨#[]⟩) := ⟨by unfold rdE; rw [if_pos hok, if_neg (by simp), hh, if_neg (by simp)], by unfold rdS; rw [if_pos hok, if_neg (by simp), fnd_none hh]⟩
        rw [hh] at C2
        obtain ⟨⟨n, d, y⟩, hfd⟩ : ∃ f, fnd nm fs = f := ⟨_, rfl⟩
        rw [hfd] at C2
        clear hch hx hb0 hs0 hok hsm hh hfd
        go_enter Try.func12, Try.ntmps12
        go_wp2_with fail
        refine C1.out.mono ?_
        rintro e w1 ⟨rfl, hb1⟩
        obtain ⟨a0, a1, a2⟩ := HX.out w1 hb1
        have HB : Hid (Below w.heap.size w w1) := HB0.out.trans (hb1.mono HB0.out.size)
        have C3 := C2.out w1 HB.out
        clear C1 C2 hb1 x0 x1 x2
        go_wp2_with fail
        refine C3.mono ?_
        rintro e w2 ⟨rfl, hb2⟩
        have HB2 : Hid (Below w.heap.size w (w2.alloc (.cells #[.string n, .string d, .int .i64 y] 41))) := (HB.out.trans (hb2.mono HB.out.size)).alloc (Nat.le_trans HB.out.size hb2.size) _
        clear C3 hb2
        go_wp2_with fail
        go_ret2
        exact ⟨by rw [HE.out.1, HE.out.2]; rfl, HB2.out⟩
      | true =>
        have hE : rdE fs false nm = 0 ∧ rdS fs false nm = (fnd nm fs).d := ⟨by unfold rdE; rw [if_pos hok, if_neg (by simp), hh, if_pos rfl], by unfold rdS; rw [if_pos hok, if_neg (by simp)]⟩
        rw [hh] at C2
        obtain ⟨⟨n, d, y⟩, hfd⟩ : ∃ f, fnd nm fs = f := ⟨_, rfl⟩
        rw [hfd] at C2 hsm hE
        have HE : Hid (rdE fs false nm = 0 ∧ rdS fs false nm = d) := hE
        have C4 : Hid (∀ W, Calls Try.prog 29 #[.string d] W fun e w' => e = .returned (.string d) ∧ Below W.heap.size W w') := fun W => clone_any d W hsm.2
        clear hch hx hb0 hs0 hok hsm hh hfd hE
        go_enter Try.func12, Try.ntmps12
        go_wp2_with fail
        refine C1.out.mono ?_
        rintro e w1 ⟨rfl, hb1⟩
        obtain ⟨a0, a1, a2⟩ := HX.out w1 hb1
        have HB : Hid (Below w.heap.size w w1) := HB0.out.trans (hb1.mono HB0.out.size)
        have C3 := C2.out w1 HB.out
        clear C1 C2 hb1 x0 x1 x2
        go_wp2_with fail
        refine C3.mono ?_
        rintro e w2 ⟨rfl, hb2⟩
        have HB2 : Hid (Below w.heap.size w (w2.alloc (.cells #[.string n, .string d, .int .i64 y] 41))) := (HB.out.trans (hb2.mono HB.out.size)).alloc (Nat.le_trans HB.out.size hb2.size) _
        clear C3 hb2
        go_wp2_with fail
        refine (C4.out _).mono ?_
        rintro e w3 ⟨rfl, hb3⟩
        have HB3 : Hid (Below w.heap.size w w3) := HB2.out.trans (hb3.mono HB2.out.size)
        clear C4 hb3
        go_wp2_with fail
        go_ret2
        exact ⟨by rw [HE.out.1, HE.out.2]; rfl, HB3.out⟩
  · have hch : chE fs = 6 := by unfold chE; rw [if_neg hok]
    rw [hch] at C1
    have HE : Hid (rdE fs dn nm = 6 ∧ rdS fs dn nm = ⟨#[]⟩) := ⟨by unfold rdE; rw [if_neg hok], by unfold rdS; rw [if_neg hok]⟩
    clear hch hx hb0 hs0 hok hsm
    go_enter Try.func12, Try.ntmps12
    go_wp2_with fail
    refine C1.out.mono ?_
    rintro e w1 ⟨rfl, hb1⟩
    have HB : Hid (Below w.heap.size w w1) := HB0.out.trans (hb1.mono HB0.out.size)
    clear C1 hb1 x0 x1 x2
    go_wp2_with fail
    go_ret2
    exact ⟨by rw [HE.out.1, HE.out.2]; rfl, HB.out⟩
end Go.Proofs.Ytedjfbkpebmggaa
