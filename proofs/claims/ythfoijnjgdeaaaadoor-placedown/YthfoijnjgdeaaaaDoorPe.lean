/- A row that is copied, its texts, too: what copyRow answers. -/
import Derived.Test.YthfoijnjgdeaaaaDoorPd
namespace Go.Proofs.YthfoijnjgdeaaaaDoor
open Go.Shelf Go.RowKit Go.Lib Go.Sort
set_option linter.unusedVariables false
set_option linter.unusedSimpArgs false
attribute [local go_sem ↓] Go.wp_at_zero Go.wp_at_succ
/-- A row that is being copied. -/
def CpJ (w : World) (xs : List Val) (i : Nat) (wx : World) : Prop :=
  ∃ cur : Array Value, wx.heap[w.heap.size]? = some (.cells cur 64 (0, 0)) ∧ cur.size = xs.length * 4 ∧ Below w.heap.size w wx ∧ ∀ j, j < i * 4 → cur[j]? = (flat xs)[j]?
theorem set_row {W : World} {g k : Nat} {cur : Array Value} (hg : W.heap[g]? = some (.cells cur 64 (0, 0))) (hk : k < cur.size) (v : Value) :
    (∃ o, W.cell? ⟨g, k, none⟩ = some o) ∧ W.frozen? ⟨g, k, none⟩ = false ∧ (W.setCell ⟨g, k, none⟩ v).heap[g]? = some (.cells (cur.setIfInBounds k v) 64 (0, 0)) ∧ ∀ B w0, Below B w0 W → B ≤ g → Below B w0 (W.setCell ⟨g, k, none⟩ v) := by
  refine ⟨⟨cur[k], by simp [World.cell?, hg, hk]⟩, frozen_zero hg k, heap_setCell_same W g k cur 64 v hg, fun B w0 hb hB => ⟨hb.os, hb.tape, hb.output, by simp [World.setCell]; exact hb.size, fun j hj => ?_⟩⟩
  rw [heap_setCell_other _ ⟨g, k, none⟩ j _ (by show j ≠ g; omega)]
  exact hb.block j hj
theorem copy_four {w w2 : World} {xs : List Val} {i : Nat} {cur : Array Value} {xk : Int} {xb : Bool} {xn : Int} {xt : ByteArray} (hg : w2.heap[w.heap.size]? = some (.cells cur 64 (0, 0))) (hcs : cur.size = xs.length * 4) (hb : Below w.heap.size w w2)
    (hcur : ∀ j, j < i * 4 → cur[j]? = (flat xs)[j]?) (hi : i < xs.length) (hx : xs[i] = ⟨xk, xb, xn, xt⟩) :
    ∃ Wa Wb Wc Wd, w2.setCell ⟨w.heap.size, i * 4, none⟩ (.int .u8 xk) = Wa ∧ Wa.setCell ⟨w.heap.size, i * 4 + 1, none⟩ (.bool xb) = Wb ∧ Wb.setCell ⟨w.heap.size, i * 4 + 2, none⟩ (.int .i64 xn) = Wc ∧ Wc.setCell ⟨w.heap.size, i * 4 + 3, none⟩ (.string xt) = Wd ∧
      (∃ o, w2.cell? ⟨w.heap.size, i * 4, none⟩ = some o) ∧ w2.frozen? ⟨w.heap.size, i * 4, none⟩ = false ∧ (∃ o, Wa.cell? ⟨w.heap.size, i * 4 + 1, none⟩ = some o) ∧ Wa.frozen? ⟨w.heap.size, i * 4 + 1, none⟩ = false ∧
      (∃ o, Wb.cell? ⟨w.heap.size, i * 4 + 2, none⟩ = some o) ∧ Wb.frozen? ⟨w.heap.size, i * 4 + 2, none⟩ = false ∧ (∃ o, Wc.cell? ⟨w.heap.size, i * 4 + 3, none⟩ = some o) ∧ Wc.frozen? ⟨w.heap.size, i * 4 + 3, none⟩ = false ∧ CpJ w xs (i + 1) Wd := by
  obtain ⟨a1, a2, a3, a4⟩ := set_row hg (k := i * 4) (by omega) (.int .u8 xk)
  obtain ⟨b1, b2, b3, b4⟩ := set_row a3 (k := i * 4 + 1) (by simp; omega) (.bool xb)
  obtain ⟨c1, c2, c3, c4⟩ := set_row b3 (k := i * 4 + 2) (by simp; omega) (.int .i64 xn)
  obtain ⟨d1, d2, d3, d4⟩ := set_row c3 (k := i * 4 + 3) (by simp; omega) (.string xt)
  have hbd := d4 _ _ (c4 _ _ (b4 _ _ (a4 _ _ hb (Nat.le_refl _)) (Nat.le_refl _)) (Nat.le_refl _)) (Nat.le_refl _)
  refine ⟨_, _, _, _, rfl, rfl, rfl, rfl, a1, a2, b1, b2, c1, c2, d1, d2, _, d3, by simpa using hcs, hbd, fun j hj => ?_⟩
  obtain ⟨f0, f1, f2, f3⟩ := flat_at xs i hi
  rw [hx] at f0 f1 f2 f3
  simp only [Array.getElem?_setIfInBounds, Array.size_setIfInBounds]
  by_cases e3 : i * 4 + 3 = j
  · subst e3; rw [f3, if_pos rfl, if_pos (by omega)]
  rw [if_neg e3]
  by_cases e2 : i * 4 + 2 = j
  · subst e2; rw [f2, if_pos rfl, if_pos (by omega)]
  rw [if_neg e2]
  by_cases e1 : i * 4 + 1 = j
  · subst e1; rw [f1, if_pos rfl, if_pos (by omega)]
  rw [if_neg e1]
  by_cases e0 : i * 4 = j
  · subst e0; rw [f0, if_pos rfl, if_pos (by omega)]
  rw [if_neg e0]
  exact hcur j (by omega)
set_option maxRecDepth 100000 in
set_option maxHeartbeats 4000000 in
theorem copyRow_any (v : Value) (xs : List Val) (w : World) (h : RowV w v xs) (hn : xs.length * 32 ≤ 140737488355328) (hs : ∀ x ∈ xs, x.s.size ≤ 281474976710656) :
    Calls Tryd.prog 31 #[v] w fun e w' => ∃ u, e = .returned u ∧ OwnR w.heap.size w' u xs ∧ Below w.heap.size w w' := by
  obtain ⟨p, c, rfl, hl, hp⟩ := h.form
  have HP : Hid (0 < xs.length → ∃ b o, p = some ⟨b, o, none⟩ ∧ RowIs w b o xs ∧ b < w.heap.size) := hp
  have HS : Hid (∀ x ∈ xs, x.s.size ≤ 281474976710656) := hs
  clear hp hs h
  obtain ⟨Z, hZ, hmk⟩ : ∃ Z : Array Value, Z.size = xs.length * 4 ∧ (Instr.makeSlice 25 (.int .i64 (xs.length : Int)) (.int .i64 (xs.length : Int))).run Tryd.prog w = .ok (.slice (some ⟨w.heap.size, 0, none⟩) xs.length xs.length) (w.alloc (.cells Z 64)) := by
    obtain ⟨i0, hi, hz0, hz1, hz2⟩ := infoVal
    have := run_make (P := Tryd.prog) (w := w) 25 64 i0 _ Tryd.underlying25 hi hz0 .i64 .i64 (xs.length : Int) (xs.length : Int) (by omega) (by omega) (by rw [hz2]; omega) (by omega)
    rw [hz1] at this
    refine ⟨madeCells (Value.agg #[.int .u8 0, .bool false, .int .i64 0, .string ⟨#[]⟩]).cells (xs.length * 4), by rw [size_madeCells], ?_⟩
    simpa using this
  have HJ : Hid (CpJ w xs 0 (w.alloc (.cells Z 64))) := ⟨Z, heap_alloc_new w _, hZ, (Below.refl _ _).alloc (Nat.le_refl _) _, fun j h => by omega⟩
  obtain ⟨W1, hW1⟩ : ∃ W1, w.alloc (.cells Z 64) = W1 := ⟨_, rfl⟩
  rw [hW1] at HJ hmk
  clear hZ hW1
  go_enter Tryd.func31, Tryd.ntmps31
  go_wp2_with fail
  go_loopg [11] xs.length (fun gf s11 wx => ∃ i : Nat, s11 = .int .i64 i ∧ i ≤ xs.length ∧ xs.length ≤ i + gf ∧ Hid (CpJ w xs i wx))
  case atStart => exact ⟨0, rfl, by omega, by omega, HJ⟩
  case round =>
    clear HJ
    obtain ⟨i, rfl, hi1, hgf, HJ⟩ := hrel
    by_cases hi : i < xs.length
    · obtain ⟨g', rfl⟩ : ∃ g', gk = g' + 1 := ⟨gk - 1, by omega⟩
      obtain ⟨b, o, rfl, hr, hB⟩ := HP.out (by omega)
      obtain ⟨x0, x1, x2, x3⟩ := hr i hi
      have hbw : Below w.heap.size w wr := by obtain ⟨_, _, _, h, _⟩ := HJ.out; exact h
      rw [← hbw.cell (p := ⟨b, _, none⟩) hB] at x0 x1 x2 x3
      have hsx := HS.out xs[i] (List.getElem_mem hi)
      obtain ⟨⟨xk, xb, xn, xt⟩, hxv⟩ : ∃ v, xs[i] = v := ⟨_, rfl⟩
      rw [hxv] at x0 x1 x2 x3 hsx
      simp only at x0 x1 x2 x3 hsx
      have hz0 : (0 : Int) ≤ (i : Int) := by omega
      have hz1 : (i : Int) < (xs.length : Int) := by omega
      obtain ⟨cur, hg, hcs, _, hcur⟩ := HJ.out
      have hglt : w.heap.size < wr.heap.size := (Array.getElem?_eq_some_iff.1 hg).1
      have CC : Hid (∀ W, Calls Tryd.prog 51 #[.string xt] W fun e w' => e = .returned (.string xt) ∧ Below W.heap.size W w') := fun W => clone_any xt W hsx
      clear hr hsx
      go_wp2_with fail
      refine (CC.out _).mono ?_
      rintro e w2 ⟨rfl, hb2⟩
      have hbx : w2.heap[wr.heap.size]? = some (.cells #[.int .u8 xk, .bool xb, .int .i64 xn, .string xt] 64 (0, 0)) := by
        rw [hb2.block _ (by simp)]; exact heap_alloc_new wr _
      have hg2 : w2.heap[w.heap.size]? = some (.cells cur 64 (0, 0)) := by
        rw [hb2.block _ (by simp; omega), heap_alloc_old wr _ hglt]; exact hg
      have hbw2 : Below w.heap.size w w2 := hbw.trans (((Below.refl wr.heap.size wr).alloc (Nat.le_refl _) _).trans (hb2.mono (by simp)) |>.mono hbw.size)
      have hst : w2.setCell ⟨wr.heap.size, 3, none⟩ (.string xt) = w2 := by
        rw [setCell_eq_setRow w2 wr.heap.size 3 _ 64 (0, 0) _ hbx]
        exact setRow_self w2 wr.heap.size _ 64 (0, 0) hbx
      have b0 : w2.cell? ⟨wr.heap.size, 0, none⟩ = some (.int .u8 xk) := by simp [World.cell?, hbx]
      have b1 : w2.cell? ⟨wr.heap.size, 1, none⟩ = some (.bool xb) := by simp [World.cell?, hbx]
      have b2 : w2.cell? ⟨wr.heap.size, 2, none⟩ = some (.int .i64 xn) := by simp [World.cell?, hbx]
      have b3 : w2.cell? ⟨wr.heap.size, 3, none⟩ = some (.string xt) := by simp [World.cell?, hbx]
      have bf : w2.frozen? ⟨wr.heap.size, 3, none⟩ = false := frozen_zero hbx 3
      obtain ⟨Wa, Wb, Wc, Wd, hWa, hWb, hWc, hWd, ca, fa, cb, fb, cc, fc, cd, fd, hJd⟩ := copy_four (w := w) (xs := xs) (i := i) hg2 hcs hbw2 hcur hi hxv
      have HJ2 : Hid (CpJ w xs (i + 1) Wd) := hJd
      obtain ⟨oa, ca⟩ := ca
      obtain ⟨ob, cb⟩ := cb
      obtain ⟨oc, cc⟩ := cc
      obtain ⟨od, cd⟩ := cd
      clear hb2 CC x0 x1 x2 x3 hJd hg hg2 hcs hcur hbx hbw2 hbw HJ hxv
      go_wp2_with fail
      go_roundg g'
      case measure => omega
      case rel => exact ⟨i + 1, by go_num, by omega, by omega, HJ2⟩
    · have hz1 : ¬ (i : Int) < (xs.length : Int) := by omega
      have HF : Hid (OwnR w.heap.size wr (.slice (some ⟨w.heap.size, 0, none⟩) xs.length xs.length) xs ∧ Below w.heap.size w wr) := by
        obtain ⟨cur, hg, hcs, hbw, hcur⟩ := HJ.out
        refine ⟨⟨flat_length xs, .inr ⟨_, _, cur, rfl, Nat.le_refl _, hg, Nat.le_refl _, by unfold maxLen; omega, hcs, ?_⟩⟩, hbw⟩
        apply List.ext_getElem?
        intro j
        by_cases hj : j < xs.length * 4
        · rw [List.getElem?_take_of_lt hj, ← hcur j (by omega)]; simp
        · rw [List.getElem?_eq_none (by simp; omega), List.getElem?_eq_none (by rw [flat_length]; omega)]
      clear HJ HP HS
      go_wp2_with fail
      go_ret
      exact ⟨_, rfl, HF.out⟩
end Go.Proofs.YthfoijnjgdeaaaaDoor
