/- The owners of a shard: what place.Owners answers. -/
import Derived.Test.YthfoijnjgdeaaaaDoorPa
import Derived.Test.YthfoijnjgdeaaaaDoorShelfD
import Derived.Laws.MakeOwn
import Derived.Laws.OwnMore
namespace Go.Proofs.YthfoijnjgdeaaaaDoor
open Go.Shelf Go.RowKit Go.Lib Go.Sort
set_option linter.unusedVariables false
set_option linter.unusedSimpArgs false
attribute [local go_sem ↓] Go.wp_at_zero Go.wp_at_succ
/-- A list of whole numbers that lies in memory. -/
def IntsL (w : World) (v : Value) (zs : List Int) : Prop :=
  ∃ p c, v = .slice p zs.length c ∧ zs.length ≤ 9223372036854775807 ∧ (0 < zs.length → ∃ b o, p = some ⟨b, o, none⟩ ∧ b < w.heap.size ∧ ∀ j (h : j < zs.length), w.cell? ⟨b, o + j, none⟩ = some (.int .i64 zs[j]))
theorem IntsL.below {w W : World} {v : Value} {zs : List Int} (h : IntsL w v zs) (hb : Below w.heap.size w W) : IntsL W v zs := by
  obtain ⟨p, c, rfl, hl, h⟩ := h
  refine ⟨p, c, rfl, hl, fun h0 => ?_⟩
  obtain ⟨b, o, rfl, hlt, hc⟩ := h h0
  exact ⟨b, o, rfl, Nat.lt_of_lt_of_le hlt hb.size, fun j hj => by rw [hb.cell (p := ⟨b, _, none⟩) hlt]; exact hc j hj⟩
/-- A shard's owners, as they are made. -/
def ownL (N sh : Int) (R : Nat) : List Int := (List.range R).map fun (r : Nat) => 1 + (sh + (r : Int)) % (N - 1)
theorem ownL_length (N sh : Int) (R : Nat) : (ownL N sh R).length = R := by simp [ownL]
/-- Owners that are being made. -/
def OwnJ (w1 : World) (N sh : Int) (R i : Nat) (wx : World) : Prop :=
  ∃ cur : Array Value, wx.heap[w1.heap.size]? = some (.cells cur 3 (0, 0)) ∧ cur.size = R ∧ Below w1.heap.size w1 wx ∧ ∀ j, j < i → cur[j]? = some (.int .i64 (1 + (sh + (j : Int)) % (N - 1)))
theorem own_step {w1 wr : World} {N sh : Int} {R i : Nat} (hJ : OwnJ w1 N sh R i wr) (hi : i < R) : OwnJ w1 N sh R (i + 1) (wr.setCell ⟨w1.heap.size, i, none⟩ (.int .i64 (1 + (sh + (i : Int)) % (N - 1)))) := by
  obtain ⟨cur, hg, hc, hb, hr⟩ := hJ
  have g2 := heap_setCell_same wr w1.heap.size i cur 3 (.int .i64 (1 + (sh + (i : Int)) % (N - 1))) hg
  refine ⟨_, g2, by simpa using hc, ⟨hb.os, hb.tape, hb.output, by simp [World.setCell]; exact hb.size, fun k hk => ?_⟩, fun j hj => ?_⟩
  · rw [heap_setCell_other _ ⟨w1.heap.size, i, none⟩ k _ (by show k ≠ w1.heap.size; omega)]; exact hb.block k hk
  · by_cases e : j = i
    · subst e; rw [Array.getElem?_setIfInBounds_self_of_lt (by omega)]
    · rw [Array.getElem?_setIfInBounds_ne (by omega)]; exact hr j (by omega)
theorem info3 : ∃ i0, Tryd.prog.info? 3 = some i0 ∧ i0.zero = some (.int .i64 0) ∧ i0.size = 1 ∧ i0.bytes = 8 := by
  have h1 : (Tryd.prog.info? 3).bind (·.zero) = some (.int .i64 0) := by kernel_rfl
  have h2 : (Tryd.prog.info? 3).map (·.size) = some 1 := by kernel_rfl
  have h3 : (Tryd.prog.info? 3).map (·.bytes) = some 8 := by kernel_rfl
  generalize Tryd.prog.info? 3 = i at *
  cases i with
  | none => cases h1
  | some i => exact ⟨i, rfl, h1, Option.some.inj h2, Option.some.inj h3⟩
theorem cell_box (W : World) (vs : Array Value) (t : TypeId) (i : Nat) (v : Value) (h : vs[i]? = some v) : (W.alloc (.cells vs t)).cell? ⟨W.heap.size, i, none⟩ = some v := by
  simp only [World.cell?, heap_alloc_new]
  simpa using h
theorem box3_below (w : World) (a b c : Value) : Below w.heap.size w (w.alloc (.cells #[a, b, c] 23)) := (Below.refl _ _).alloc (Nat.le_refl _) _
/-- The owners as they are sorted. -/
theorem owners_sorted (w1 W : World) (N sh : Int) (R : Nat) (hJ : OwnJ w1 N sh R R W) (hR : R ≤ 8) :
    Calls Tryd.prog 27 #[.slice (some ⟨w1.heap.size, 0, none⟩) R R] W fun e w' => e = .returned (.tuple #[]) ∧ IntsL w' (.slice (some ⟨w1.heap.size, 0, none⟩) R R) ((ownL N sh R).mergeSort fun x y => decide (x ≤ y)) ∧ Below w1.heap.size w1 w' := by
  obtain ⟨cur, hg, hcs, hb, hr⟩ := hJ
  have hlt : w1.heap.size < W.heap.size := (Array.getElem?_eq_some_iff.1 hg).1
  have hH : Holds (Value.int .i64) W w1.heap.size 0 (ownL N sh R).toArray := fun j hj => by
    have hj' : j < R := by simpa [ownL_length] using hj
    rw [Nat.zero_add, getElem!_pos _ j hj]
    refine ⟨?_, frozen_zero hg j⟩
    simp only [World.cell?, hg]
    simp [hr j hj', ownL]
  have hcon := Tryd.slices_Sort w1.heap.size 0 R (ownL N sh R) W hH hlt (by rw [ownL_length]; omega)
  rw [ownL_length] at hcon
  refine hcon.mono ?_
  rintro e w' ⟨rfl, n, os, rfl⟩
  obtain ⟨zs, hzs⟩ : ∃ zs, (ownL N sh R).mergeSort (fun x y => decide (x ≤ y)) = zs := ⟨_, rfl⟩
  have hl : zs.length = R := by rw [← hzs, List.length_mergeSort, ownL_length]
  rw [hzs]
  have ho := sortWorld_others (Value.int .i64) W w1.heap.size 0 n zs.toArray os
  have hh := holds_sortWorld (Value.int .i64) W w1.heap.size 0 n (ownL N sh R).toArray zs.toArray os hlt hH (by simp [hl, ownL_length])
  refine ⟨rfl, ⟨_, R, by rw [hl], by omega, fun _ => ⟨w1.heap.size, 0, rfl, Nat.lt_of_lt_of_le hlt ho.size, fun j hj => ?_⟩⟩, ho.below hb (Nat.le_refl _) hb.size⟩
  have := (hh j (by simpa using hj)).1
  rw [getElem!_pos _ j (by simpa using hj)] at this
  show (sortWorld (Value.int .i64) W w1.heap.size 0 n zs.toArray os).cell? ⟨w1.heap.size, 0 + j, none⟩ = _
  rw [this]
  simp
/-- The layout's error, or the range's. -/
def ownE (N S R sh : Int) : Int := if layE N S R = 0 then (if 0 ≤ sh ∧ sh ≤ S - 1 then 0 else 2) else layE N S R
set_option maxRecDepth 100000 in
set_option maxHeartbeats 4000000 in
theorem owners_bad (N S R sh : Int) (w : World) (h : ownE N S R sh ≠ 0) :
    Calls Tryd.prog 9 #[.agg #[.int .i64 N, .int .i64 S, .int .i64 R], .int .i64 sh] w fun e w' => e = .returned (.tuple #[.slice none 0 0, .int .i64 (ownE N S R sh)]) ∧ Below w.heap.size w w' := by
  have C1 : Hid (∀ W, Calls Tryd.prog 18 #[.agg #[.int .i64 N, .int .i64 S, .int .i64 R]] W fun e w' => e = .returned (.int .i64 (layE N S R)) ∧ Below W.heap.size W w') := fun W => layCheck_any N S R W
  by_cases h0 : layE N S R = 0
  · have hok := layE_zero.1 h0
    rw [h0] at C1
    have e : ownE N S R sh = 2 := by
      unfold ownE at h ⊢
      rw [if_pos h0] at h ⊢
      by_cases hr : 0 ≤ sh ∧ sh ≤ S - 1
      · rw [if_pos hr] at h; exact absurd rfl h
      · rw [if_neg hr]
    have hr : ¬ (0 ≤ sh ∧ sh ≤ S - 1) := fun hr => h (by unfold ownE; rw [if_pos h0, if_pos hr])
    have d1 : (decide ((0 : Int) ≤ sh) && decide (sh ≤ S - 1)) = false := by
      cases hd : (decide ((0 : Int) ≤ sh) && decide (sh ≤ S - 1))
      · rfl
      · simp at hd; exact absurd hd hr
    have hw : IntKind.i64.wrap (S - 1) = S - 1 := by rw [IntKind.wrap_i64]; obtain ⟨_, _, _, _, _, _⟩ := hok; omega
    rw [e]
    clear e h h0 hr hok
    go_enter Tryd.func9, Tryd.ntmps9
    go_wp2_with fail
    refine (C1.out _).mono ?_
    rintro e w1 ⟨rfl, hb1⟩
    have y1 : w1.cell? ⟨w.heap.size, 1, none⟩ = some (.int .i64 S) := by rw [hb1.cell (by simp)]; exact cell_box w _ _ _ _ rfl
    have HB : Hid (Below w.heap.size w w1) := (box3_below w _ _ _).trans (hb1.mono (by simp))
    clear hb1
    go_wp2_with fail
    refine (within_any _ _ _ _).mono ?_
    rintro e w2 ⟨rfl, rfl⟩
    rw [d1]
    go_wp2_with fail
    go_ret2
    exact ⟨rfl, HB.out⟩
  · have e : ownE N S R sh = layE N S R := by unfold ownE; rw [if_neg h0]
    rw [e]
    obtain ⟨L, hL⟩ : ∃ L, layE N S R = L := ⟨_, rfl⟩
    rw [hL] at C1 h0 ⊢
    have hne : (L != 0) = true := bne_iff_ne.2 h0
    clear e h h0 hL
    go_enter Tryd.func9, Tryd.ntmps9
    go_wp2_with fail
    refine (C1.out _).mono ?_
    rintro e w1 ⟨rfl, hb1⟩
    have HB : Hid (Below w.heap.size w w1) := (box3_below w _ _ _).trans (hb1.mono (by simp))
    clear hb1
    go_wp2_with fail
    go_ret2
    exact ⟨rfl, HB.out⟩
set_option maxRecDepth 100000 in
set_option maxHeartbeats 4000000 in
theorem owners_good (N S : Int) (R : Nat) (sh : Int) (w : World) (h0 : layE N S R = 0) (hr : 0 ≤ sh ∧ sh ≤ S - 1) :
    Calls Tryd.prog 9 #[.agg #[.int .i64 N, .int .i64 S, .int .i64 R], .int .i64 sh] w fun e w' => ∃ u, e = .returned (.tuple #[u, .int .i64 0]) ∧ IntsL w' u ((ownL N sh R).mergeSort fun x y => decide (x ≤ y)) ∧ Below w.heap.size w w' := by
  have C1 : Hid (∀ W, Calls Tryd.prog 18 #[.agg #[.int .i64 N, .int .i64 S, .int .i64 R]] W fun e w' => e = .returned (.int .i64 (layE N S R)) ∧ Below W.heap.size W w') := fun W => layCheck_any N S R W
  have hok := layE_zero.1 h0
  obtain ⟨k1, k2, k3, k4, k5, k6⟩ := hok
  rw [h0] at C1
  have d1 : (decide ((0 : Int) ≤ sh) && decide (sh ≤ S - 1)) = true := by simp [hr.1]; omega
  have hw : IntKind.i64.wrap (S - 1) = S - 1 := by rw [IntKind.wrap_i64]; omega
  have hw2 : IntKind.i64.wrap (N - 1) = N - 1 := by rw [IntKind.wrap_i64]; omega
  obtain ⟨hr0, hr1⟩ := hr
  clear h0
  go_enter Tryd.func9, Tryd.ntmps9
  go_wp2_with fail
  refine (C1.out _).mono ?_
  rintro e w1 ⟨rfl, hb1⟩
  have y0 : w1.cell? ⟨w.heap.size, 0, none⟩ = some (.int .i64 N) := by rw [hb1.cell (by simp)]; exact cell_box w _ _ _ _ rfl
  have y1 : w1.cell? ⟨w.heap.size, 1, none⟩ = some (.int .i64 S) := by rw [hb1.cell (by simp)]; exact cell_box w _ _ _ _ rfl
  have y2 : w1.cell? ⟨w.heap.size, 2, none⟩ = some (.int .i64 R) := by rw [hb1.cell (by simp)]; exact cell_box w _ _ _ _ rfl
  have hbox : w.heap.size < w1.heap.size := by have := hb1.size; simp at this; omega
  have HB : Hid (Below w.heap.size w w1) := (box3_below w _ _ _).trans (hb1.mono (by simp))
  clear hb1
  go_wp2_with fail
  refine (within_any _ _ _ _).mono ?_
  rintro e w2 ⟨rfl, rfl⟩
  rw [d1]
  clear d1
  obtain ⟨Z, hZ, hmk⟩ : ∃ Z : Array Value, Z.size = R ∧ (Instr.makeSlice 30 (.int .i64 (R : Int)) (.int .i64 (R : Int))).run Tryd.prog w2 = .ok (.slice (some ⟨w2.heap.size, 0, none⟩) R R) (w2.alloc (.cells Z 3)) := by
    obtain ⟨i0, hi, hz0, hz1, hz2⟩ := info3
    have := run_make (P := Tryd.prog) (w := w2) 30 3 i0 _ Tryd.underlying30 hi hz0 .i64 .i64 (R : Int) (R : Int) (by omega) (by omega) (by rw [hz2]; omega) (by omega)
    rw [hz1] at this
    exact ⟨madeCells (Value.int .i64 0).cells (R * 1), by rw [size_madeCells]; omega, by simpa using this⟩
  have HJ : Hid (OwnJ w2 N sh R 0 (w2.alloc (.cells Z 3))) := ⟨Z, heap_alloc_new w2 _, hZ, (Below.refl _ _).alloc (Nat.le_refl _) _, fun j h => by omega⟩
  have x0 : (w2.alloc (.cells Z 3)).cell? ⟨w.heap.size, 0, none⟩ = some (.int .i64 N) := by rw [World.cell?_of_block (w := w2) (heap_alloc_old w2 _ hbox)]; exact y0
  have x2 : (w2.alloc (.cells Z 3)).cell? ⟨w.heap.size, 2, none⟩ = some (.int .i64 R) := by rw [World.cell?_of_block (w := w2) (heap_alloc_old w2 _ hbox)]; exact y2
  obtain ⟨W3, hW3⟩ : ∃ W3, w2.alloc (.cells Z 3) = W3 := ⟨_, rfl⟩
  rw [hW3] at HJ hmk x0 x2
  clear hZ hW3
  go_wp2_with fail
  go_loopg [25] R (fun gf s25 wx => ∃ i : Nat, s25 = .int .i64 i ∧ i ≤ R ∧ R ≤ i + gf ∧ Hid (OwnJ w2 N sh R i wx))
  case atStart => exact ⟨0, rfl, by omega, by omega, HJ⟩
  case round =>
    clear HJ
    obtain ⟨i, rfl, hi1, hgf, HJ⟩ := hrel
    by_cases hi : i < R
    · obtain ⟨g', rfl⟩ : ∃ g', gk = g' + 1 := ⟨gk - 1, by omega⟩
      obtain ⟨cur, hg, hcs, hbw, _⟩ := HJ.out
      have z0 : wr.cell? ⟨w.heap.size, 0, none⟩ = some (.int .i64 N) := by rw [hbw.cell (p := ⟨w.heap.size, 0, none⟩) hbox]; exact y0
      have z1 : wr.cell? ⟨w2.heap.size, i, none⟩ = some (cur[i]'(by omega)) := by simp [World.cell?, hg, hcs, hi]
      have z2 : wr.frozen? ⟨w2.heap.size, i, none⟩ = false := frozen_zero hg i
      have HJ2 : Hid (OwnJ w2 N sh R (i + 1) (wr.setCell ⟨w2.heap.size, i, none⟩ (.int .i64 (1 + (sh + (i : Int)) % (N - 1))))) := own_step HJ.out hi
      generalize cur[i]'(by omega) = old at z1
      have hz0 : (0 : Int) ≤ (i : Int) := by omega
      have hz1 : (i : Int) < (R : Int) := by omega
      have q1 : IntKind.i64.wrap (sh + (i : Int)) = sh + (i : Int) := by rw [IntKind.wrap_i64]; omega
      have q2 : ((N - 1) == 0) = false := beq_eq_false_iff_ne.2 (by omega)
      have q3 : (sh + (i : Int)).tmod (N - 1) = (sh + (i : Int)) % (N - 1) := Int.tmod_eq_emod_of_nonneg (by omega)
      have q4 : 0 ≤ (sh + (i : Int)) % (N - 1) := Int.emod_nonneg _ (by omega)
      have q5 : (sh + (i : Int)) % (N - 1) < N - 1 := Int.emod_lt_of_pos _ (by omega)
      have q6 : IntKind.i64.wrap ((sh + (i : Int)) % (N - 1)) = (sh + (i : Int)) % (N - 1) := by rw [IntKind.wrap_i64]; omega
      have q7 : IntKind.i64.wrap (1 + (sh + (i : Int)) % (N - 1)) = 1 + (sh + (i : Int)) % (N - 1) := by rw [IntKind.wrap_i64]; omega
      clear HJ hg hcs hbw
      go_wp2_with fail
      go_roundg g'
      case measure => omega
      case rel => exact ⟨i + 1, by go_num, by omega, by omega, HJ2⟩
    · have hend : i = R := by omega
      subst hend
      have hz1 : ¬ (i : Int) < (i : Int) := by omega
      have C2 : Hid (Calls Tryd.prog 27 #[.slice (some ⟨w2.heap.size, 0, none⟩) i i] wr fun e w' => e = .returned (.tuple #[]) ∧ IntsL w' (.slice (some ⟨w2.heap.size, 0, none⟩) i i) ((ownL N sh i).mergeSort fun x y => decide (x ≤ y)) ∧ Below w2.heap.size w2 w') := owners_sorted w2 wr N sh i HJ.out (by omega)
      clear HJ
      go_wp2_with fail
      refine C2.out.mono ?_
      rintro e w4 ⟨rfl, hI, hb4⟩
      have HI : Hid (IntsL w4 (.slice (some ⟨w2.heap.size, 0, none⟩) i i) ((ownL N sh i).mergeSort fun x y => decide (x ≤ y))) := hI
      have HB4 : Hid (Below w.heap.size w w4) := HB.out.trans (hb4.mono HB.out.size)
      clear hI hb4 C2
      go_wp2_with fail
      go_ret2
      exact ⟨_, rfl, HI.out, HB4.out⟩
end Go.Proofs.YthfoijnjgdeaaaaDoor
