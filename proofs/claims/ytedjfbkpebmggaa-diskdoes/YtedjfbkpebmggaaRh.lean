/- The reference's Do: what its boxes hold. -/
import Derived.Test.YtedjfbkpebmggaaRg
namespace Go.Proofs.Ytedjfbkpebmggaa
open Go.Shelf Go.RowKit Go.Lib Go.Sort
set_option linter.unusedVariables false
set_option linter.unusedSimpArgs false
attribute [local go_sem ↓] Go.wp_at_zero Go.wp_at_succ
theorem wo_wo (nm : ByteArray) (fs : List DF) : wo nm (wo nm fs) = wo nm fs := by unfold wo; rw [List.filter_filter]; simp
theorem put_with (fs : List DF) (nm dt : ByteArray) : wi ⟨nm, dt, 0⟩ fs = putF fs nm dt := by
  show insK (less nm (wo nm fs)) _ (wo nm fs) = insK (less nm (wo nm (wo nm fs))) _ (wo nm (wo nm fs))
  rw [wo_wo]
theorem wi_set {fs : List DF} (hu : Up fs) {j : Nat} (hj : j < fs.length) (d : ByteArray) (y : Int) : wi ⟨fs[j].n, d, y⟩ fs = fs.set j ⟨fs[j].n, d, y⟩ := by
  have hw : wo fs[j].n fs = fs.take j ++ fs.drop (j + 1) := by
    have e : fs = fs.take j ++ fs[j] :: fs.drop (j + 1) := by rw [← List.drop_eq_getElem_cons hj, List.take_append_drop]
    have h1 : wo fs[j].n (fs.take j) = fs.take j := by
      unfold wo
      rw [List.filter_eq_self]
      intro g hg
      obtain ⟨k, hk, rfl⟩ := List.getElem_of_mem hg
      rw [List.length_take] at hk
      rw [List.getElem_take]
      have := hu.lt (show k < j by omega) hj
      cases e : eqB fs[k].n fs[j].n with
      | false => rfl
      | true => exact absurd (eqB_iff.1 e) (ltB_ne this)
    have h2 : wo fs[j].n (fs.drop (j + 1)) = fs.drop (j + 1) := by
      unfold wo
      rw [List.filter_eq_self]
      intro g hg
      obtain ⟨k, hk, rfl⟩ := List.getElem_of_mem hg
      rw [List.length_drop] at hk
      rw [List.getElem_drop]
      have := hu.lt (show j < j + 1 + k by omega) (by omega)
      cases e : eqB fs[j + 1 + k].n fs[j].n with
      | false => rfl
      | true => exact absurd (eqB_iff.1 e).symm (ltB_ne this)
    have h3 : wo fs[j].n (fs.take j ++ fs[j] :: fs.drop (j + 1)) = fs.take j ++ fs.drop (j + 1) := by
      show List.filter _ _ = _
      rw [List.filter_append, List.filter_cons_of_neg (by simp [eqB])]
      exact congr (congrArg _ h1) h2
    rw [← e] at h3
    exact h3
  have hl : less fs[j].n (fs.take j ++ fs.drop (j + 1)) = j := by
    refine less_at (by simp; omega) (fun t h1 h2 => ?_) (fun t h1 h2 => ?_)
    · rw [List.getElem_append_left (by simp; omega), List.getElem_take]
      exact hu.lt h2 hj
    · simp only [List.length_append, List.length_take, List.length_drop] at h1
      rw [List.getElem_append_right (by simp; omega), List.getElem_drop]
      exact ltB_asymm (hu.lt (by simp; omega) _)
  show insK (less fs[j].n (wo fs[j].n fs)) _ (wo fs[j].n fs) = _
  rw [hw, hl, List.set_eq_take_append_cons_drop, if_pos hj]
  unfold insK
  rw [List.take_append_of_le_length (by simp; omega), List.take_take, Nat.min_self, List.drop_append]
  simp [Nat.min_eq_left (Nat.le_of_lt hj)]
/-- What the boxes of Do hold. -/
def DoG (w : World) (kk : Int) (nm tt dt : ByteArray) (gs : List DF) (dn : Bool) (fu : Int) (p : Option Addr) (c : Nat) (wx : World) : Prop :=
  wx.heap[w.heap.size]? = some (.cells #[.slice p gs.length c, .bool dn, .int .i64 fu] 24 (0, 0)) ∧ wx.heap[w.heap.size + 1]? = some (.cells #[.int .u8 kk, .string nm, .string tt, .string dt] 27 (0, 0)) ∧
  wx.heap[w.heap.size + 1 + 1]? = some (.cells #[.slice none 0 0, .bool false, .int .i64 0] 24 (0, 0)) ∧ Below w.heap.size w wx ∧ OwnF (w.heap.size + 3) wx (.slice p gs.length c) gs
theorem DoG.lt {w wx : World} {kk : Int} {nm tt dt : ByteArray} {gs : List DF} {dn : Bool} {fu : Int} {p : Option Addr} {c : Nat} (h : DoG w kk nm tt dt gs dn fu p c wx) : w.heap.size + 1 + 1 < wx.heap.size := (Array.getElem?_eq_some_iff.1 h.2.2.1).1
theorem DoG.cells {w wx : World} {kk : Int} {nm tt dt : ByteArray} {gs : List DF} {dn : Bool} {fu : Int} {p : Option Addr} {c : Nat} (h : DoG w kk nm tt dt gs dn fu p c wx) :
    (wx.cell? ⟨w.heap.size, 0, none⟩ = some (.slice p gs.length c) ∧ wx.cell? ⟨w.heap.size, 1, none⟩ = some (.bool dn) ∧ wx.cell? ⟨w.heap.size, 2, none⟩ = some (.int .i64 fu)) ∧ wx.cell? ⟨w.heap.size + 1, 0, none⟩ = some (.int .u8 kk) ∧ wx.cell? ⟨w.heap.size + 1, 1, none⟩ = some (.string nm) ∧ wx.cell? ⟨w.heap.size + 1, 2, none⟩ = some (.string tt) ∧ wx.cell? ⟨w.heap.size + 1, 3, none⟩ = some (.string dt) :=
  ⟨⟨cell_of_row (k := 0) h.1 rfl, cell_of_row (k := 1) h.1 rfl, cell_of_row (k := 2) h.1 rfl⟩, cell_of_row (k := 0) h.2.1 rfl, cell_of_row (k := 1) h.2.1 rfl, cell_of_row (k := 2) h.2.1 rfl, cell_of_row (k := 3) h.2.1 rfl⟩
theorem DoG.below {w wx wy : World} {kk : Int} {nm tt dt : ByteArray} {gs : List DF} {dn : Bool} {fu : Int} {p : Option Addr} {c : Nat} (h : DoG w kk nm tt dt gs dn fu p c wx) (hb : Below wx.heap.size wx wy) : DoG w kk nm tt dt gs dn fu p c wy := by
  have hl := h.lt
  obtain ⟨h0, h1, h2, h3, h4⟩ := h
  exact ⟨by rw [hb.block _ (by omega)]; exact h0, by rw [hb.block _ (by omega)]; exact h1, by rw [hb.block _ (by omega)]; exact h2, h3.trans (hb.mono h3.size), h4.below hb⟩
/-- Another disk is stored in its box. -/
theorem DoG.put {w wx wy : World} {kk : Int} {nm tt dt : ByteArray} {gs ks : List DF} {dn dn' : Bool} {fu fu' : Int} {p p' : Option Addr} {c c' B : Nat} (h : DoG w kk nm tt dt gs dn fu p c wx) (hb : Below wx.heap.size wx wy) (hB : wx.heap.size ≤ B) (ho : OwnF B wy (.slice p' ks.length c') ks) :
    ∃ Wa Wb Wc, wy.setCell ⟨w.heap.size, 0, none⟩ (.slice p' ks.length c') = Wa ∧ Wa.setCell ⟨w.heap.size, 1, none⟩ (.bool dn') = Wb ∧ Wb.setCell ⟨w.heap.size, 2, none⟩ (.int .i64 fu') = Wc ∧
      ((∃ o, wy.cell? ⟨w.heap.size, 0, none⟩ = some o) ∧ wy.frozen? ⟨w.heap.size, 0, none⟩ = false ∧ (∃ o, Wa.cell? ⟨w.heap.size, 1, none⟩ = some o) ∧ Wa.frozen? ⟨w.heap.size, 1, none⟩ = false ∧ (∃ o, Wb.cell? ⟨w.heap.size, 2, none⟩ = some o) ∧ Wb.frozen? ⟨w.heap.size, 2, none⟩ = false) ∧ DoG w kk nm tt dt ks dn' fu' p' c' Wc := by
  have hl := h.lt
  obtain ⟨h0, h1, h2, h3, h4⟩ := h.below hb
  obtain ⟨Wa, Wb, Wc, hWa, hWb, hWc, ca, fa, cb, fb, cc, fc, hbl, hgc, _, _, _⟩ := set_disk h0 (.slice p' ks.length c') (.bool dn') (.int .i64 fu')
  obtain ⟨o1, o2⟩ := set3_other hWa hWb hWc
  exact ⟨Wa, Wb, Wc, hWa, hWb, hWc, ⟨ca, fa, cb, fb, cc, fc⟩, hgc, by rw [o1 _ (by omega)]; exact h1, by rw [o1 _ (by omega)]; exact h2, hbl _ _ h3 (Nat.le_refl _), (ho.but h0 o1).mono (by omega)⟩
/-- It goes down. -/
theorem DoG.down {w wx : World} {kk : Int} {nm tt dt : ByteArray} {gs : List DF} {dn : Bool} {fu : Int} {p : Option Addr} {c : Nat} (h : DoG w kk nm tt dt gs dn fu p c wx) (dn' : Bool) :
    ∃ Wa, wx.setCell ⟨w.heap.size, 1, none⟩ (.bool dn') = Wa ∧ (∃ o, wx.cell? ⟨w.heap.size, 1, none⟩ = some o) ∧ wx.frozen? ⟨w.heap.size, 1, none⟩ = false ∧ DoG w kk nm tt dt gs dn' fu p c Wa := by
  obtain ⟨h0, h1, h2, h3, h4⟩ := h
  obtain ⟨s1, s2, hg4, hbl4⟩ := setT_row h0 (k := 1) (by simp) (.bool dn')
  obtain ⟨W4, hW4⟩ : ∃ W4, wx.setCell ⟨w.heap.size, 1, none⟩ (.bool dn') = W4 := ⟨_, rfl⟩
  rw [hW4] at hg4 hbl4
  obtain ⟨o3, o4⟩ := set1_other hW4
  exact ⟨W4, hW4, s1, s2, hg4, by rw [o3 _ (by omega)]; exact h1, by rw [o3 _ (by omega)]; exact h2, hbl4 _ _ h3 (Nat.le_refl _), h4.but h0 o3⟩
/-- Its fuse burns. -/
theorem DoG.fuse {w wx : World} {kk : Int} {nm tt dt : ByteArray} {gs : List DF} {dn : Bool} {fu : Int} {p : Option Addr} {c : Nat} (h : DoG w kk nm tt dt gs dn fu p c wx) (fu' : Int) :
    ∃ Wa, wx.setCell ⟨w.heap.size, 2, none⟩ (.int .i64 fu') = Wa ∧ (∃ o, wx.cell? ⟨w.heap.size, 2, none⟩ = some o) ∧ wx.frozen? ⟨w.heap.size, 2, none⟩ = false ∧ DoG w kk nm tt dt gs dn fu' p c Wa := by
  obtain ⟨h0, h1, h2, h3, h4⟩ := h
  obtain ⟨s1, s2, hg4, hbl4⟩ := setT_row h0 (k := 2) (by simp) (.int .i64 fu')
  obtain ⟨W4, hW4⟩ : ∃ W4, wx.setCell ⟨w.heap.size, 2, none⟩ (.int .i64 fu') = W4 := ⟨_, rfl⟩
  rw [hW4] at hg4 hbl4
  obtain ⟨o3, o4⟩ := set1_other hW4
  exact ⟨W4, hW4, s1, s2, hg4, by rw [o3 _ (by omega)]; exact h1, by rw [o3 _ (by omega)]; exact h2, hbl4 _ _ h3 (Nat.le_refl _), h4.but h0 o3⟩
/-- It is answered. -/
theorem DoG.ret {w wx : World} {kk : Int} {nm tt dt : ByteArray} {gs : List DF} {dn : Bool} {fu e : Int} {p : Option Addr} {c : Nat} (h : DoG w kk nm tt dt gs dn fu p c wx) (hm : gs.length * 40 ≤ 140737488355328) (hs : SmallF gs) :
    ∃ Va Vb Vc, wx.setCell ⟨w.heap.size + 1 + 1, 0, none⟩ (.slice p gs.length c) = Va ∧ Va.setCell ⟨w.heap.size + 1 + 1, 1, none⟩ (.bool dn) = Vb ∧ Vb.setCell ⟨w.heap.size + 1 + 1, 2, none⟩ (.int .i64 fu) = Vc ∧
      ((∃ o, wx.cell? ⟨w.heap.size + 1 + 1, 0, none⟩ = some o) ∧ wx.frozen? ⟨w.heap.size + 1 + 1, 0, none⟩ = false ∧ (∃ o, Va.cell? ⟨w.heap.size + 1 + 1, 1, none⟩ = some o) ∧ Va.frozen? ⟨w.heap.size + 1 + 1, 1, none⟩ = false ∧ (∃ o, Vb.cell? ⟨w.heap.size + 1 + 1, 2, none⟩ = some o) ∧ Vb.frozen? ⟨w.heap.size + 1 + 1, 2, none⟩ = false) ∧
      (Vc.cell? ⟨w.heap.size + 1 + 1, 0, none⟩ = some (.slice p gs.length c) ∧ Vc.cell? ⟨w.heap.size + 1 + 1, 1, none⟩ = some (.bool dn) ∧ Vc.cell? ⟨w.heap.size + 1 + 1, 2, none⟩ = some (.int .i64 fu)) ∧
      Did ⟨gs, dn, fu, e⟩ w (.returned (.tuple #[.agg #[.slice p gs.length c, .bool dn, .int .i64 fu], .int .i64 e])) Vc := by
  obtain ⟨h0, h1, h2, h3, h4⟩ := h
  obtain ⟨Va, Vb, Vc, hVa, hVb, hVc, ka, ga, kb, gb, kc, gc, hbv, _, r0, r1, r2⟩ := set_disk h2 (.slice p gs.length c) (.bool dn) (.int .i64 fu)
  obtain ⟨o5, o6⟩ := set3_other hVa hVb hVc
  exact ⟨Va, Vb, Vc, hVa, hVb, hVc, ⟨ka, ga, kb, gb, kc, gc⟩, ⟨r0, r1, r2⟩, _, _, _, rfl, (h4.files hm hs).but h2 o5 o6, hbv _ _ h3 (by omega)⟩
/-- A file's safe bytes are counted anew. -/
theorem DoG.sync {w wx : World} {kk : Int} {nm tt dt : ByteArray} {gs : List DF} {dn : Bool} {fu : Int} {p : Option Addr} {c : Nat} (h : DoG w kk nm tt dt gs dn fu p c wx) {j : Nat} (hj : j < gs.length) (y : Int) :
    ∃ b o Wa, p = some ⟨b, o, none⟩ ∧ (wx.cell? ⟨b, o + j * 3, none⟩ = some (.string gs[j].n) ∧ wx.cell? ⟨b, o + j * 3 + 1, none⟩ = some (.string gs[j].d) ∧ wx.cell? ⟨b, o + j * 3 + 2, none⟩ = some (.int .i64 gs[j].y)) ∧ wx.frozen? ⟨b, o + j * 3 + 2, none⟩ = false ∧ wx.setCell ⟨b, o + j * 3 + 2, none⟩ (.int .i64 y) = Wa ∧ (gs.set j ⟨gs[j].n, gs[j].d, y⟩).length = gs.length ∧ DoG w kk nm tt dt (gs.set j ⟨gs[j].n, gs[j].d, y⟩) dn fu p c Wa := by
  obtain ⟨h0, h1, h2, h3, h4⟩ := h
  obtain ⟨hl, ⟨he, h00⟩ | ⟨g, cap, cur, he, hbg, hg, hnc, hcm, hcs, htake⟩⟩ := h4
  · omega
  · simp only [Value.slice.injEq, true_and] at he
    obtain ⟨rfl, rfl⟩ := he
    have hrow := row_at htake
    obtain ⟨r0, r1, r2⟩ := hrow j hj
    have hk : j * 3 + 2 < cur.size := (Array.getElem?_eq_some_iff.1 r2).1
    obtain ⟨s1, s2, hg4, hbl4⟩ := setT_row hg (k := j * 3 + 2) hk (.int .i64 y)
    obtain ⟨W4, hW4⟩ : ∃ W4, wx.setCell ⟨g, j * 3 + 2, none⟩ (.int .i64 y) = W4 := ⟨_, rfl⟩
    rw [hW4] at hg4 hbl4
    obtain ⟨o3, o4⟩ := set1_other hW4
    have hls : (gs.set j ⟨gs[j].n, gs[j].d, y⟩).length = gs.length := List.length_set
    refine ⟨g, 0, W4, rfl, ⟨by rw [Nat.zero_add]; exact cell_of_row hg r0, by rw [Nat.zero_add]; exact cell_of_row hg r1, by rw [Nat.zero_add]; exact cell_of_row hg r2⟩, by rw [Nat.zero_add]; exact s2, by rw [Nat.zero_add]; exact hW4, hls, ?_⟩
    refine ⟨by rw [hls, o3 _ (by omega)]; exact h0, by rw [o3 _ (by omega)]; exact h1, by rw [o3 _ (by omega)]; exact h2, hbl4 _ _ h3 (by omega), ?_⟩
    rw [hls]
    refine ⟨by rw [flat_length], .inr ⟨g, c, _, by rw [hls], hbg, hg4, by rw [hls]; exact hnc, hcm, by simp; exact hcs, ?_⟩⟩
    have := row_iff (cur := cur.setIfInBounds (j * 3 + 2) (.int .i64 y)) (l := gs.set j ⟨gs[j].n, gs[j].d, y⟩) (fun k hk2 => by
      rw [hls] at hk2
      obtain ⟨q0, q1, q2⟩ := hrow k hk2
      rw [List.getElem_set]
      by_cases e : j = k
      · subst e
        rw [if_pos rfl, Array.getElem?_setIfInBounds_ne (by omega), Array.getElem?_setIfInBounds_ne (by omega), Array.getElem?_setIfInBounds_self_of_lt hk]
        exact ⟨q0, q1, rfl⟩
      · rw [if_neg e, Array.getElem?_setIfInBounds_ne (by omega), Array.getElem?_setIfInBounds_ne (by omega), Array.getElem?_setIfInBounds_ne (by omega)]
        exact ⟨q0, q1, q2⟩)
    exact this
end Go.Proofs.Ytedjfbkpebmggaa
