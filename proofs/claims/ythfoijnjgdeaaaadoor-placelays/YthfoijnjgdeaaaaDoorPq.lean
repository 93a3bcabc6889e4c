/- A table's shards: what the reference's Split answers of a right table. -/
import Derived.Test.YthfoijnjgdeaaaaDoorPp
import Derived.Deep.RegionLaw
namespace Go.Proofs.YthfoijnjgdeaaaaDoor
open Go.Shelf Go.RowKit Go.Lib Go.Sort
set_option linter.unusedVariables false
set_option linter.unusedSimpArgs false
attribute [local go_sem ↓] Go.wp_at_zero Go.wp_at_succ
set_option maxRecDepth 100000 in
set_option maxHeartbeats 2000000 in
theorem refSplit_good (N : Int) (S : Nat) (R : Int) (nm : ByteArray) (pc : Option Addr) (mc cc : Nat) (cs : List Col) (pr : Option Addr) (cr : Nat) (rs : List (List Val)) (w : World) (hc : ColA w (.slice pc mc cc) cs) (hr : RowsA w pr rs) (hk : ∀ r ∈ rs, ∀ x ∈ r, 0 ≤ x.k) (he : splitE N S R nm cs rs = 0) :
    Calls Tryd.prog 14 #[.agg #[.int .i64 N, .int .i64 S, .int .i64 R], .agg #[.string nm, .slice pc mc cc, .slice pr rs.length cr]] w fun e w' => ∃ w3, e = .returned (.tuple #[.slice (some ⟨w3.heap.size, 0, none⟩) S S, .int .i64 0]) ∧ Below w.heap.size w w3 ∧ SplJ w3 S (partOf S rs) w' := by
  have h0 : layE N S R = 0 := by
    unfold splitE at he
    by_cases h0 : layE N S R = 0
    · exact h0
    · rw [if_neg h0] at he; exact absurd he h0
  have ht : tableV nm cs rs = 0 := by unfold splitE at he; rw [if_pos h0] at he; exact he
  have hok := table_ok ht
  obtain ⟨k1, k2, k3, k4, k5, k6⟩ := layE_zero.1 h0
  have C1 : Hid (∀ W, Calls Tryd.prog 19 #[.agg #[.int .i64 N, .int .i64 S, .int .i64 R]] W fun e w' => e = .returned (.int .i64 0) ∧ Below W.heap.size W w') := fun W => by rw [← h0]; exact refLay_any N S R W
  have C2 : Hid (∀ W, Below w.heap.size w W → Calls Tryd.prog 32 #[.agg #[.string nm, .slice pc mc cc, .slice pr rs.length cr]] W fun e w' => e = .returned (.int .i64 0) ∧ Below W.heap.size W w') := fun W h => tableRef_core nm pc mc cc cs pr cr rs W (hc.below h) (hr.below h) _ ht
  have HR : Hid (RowsA w pr rs) := hr
  have HK : Hid (∀ r ∈ rs, ∀ x ∈ r, 0 ≤ x.k) := hk
  have HO : Hid (∀ r ∈ rs, r ≠ [] ∧ r.length ≤ 8 ∧ ∀ x ∈ r, x.k < 4 ∧ x.s.size ≤ 256) := hok.2
  have hn64 := hok.1
  clear hc hr hk hok ht he h0
  go_enter Tryd.func14, Tryd.ntmps14
  go_wp2_with fail
  refine (C1.out _).mono ?_
  rintro e w1 ⟨rfl, hb1⟩
  have y0 : w1.cell? ⟨w.heap.size + 1, 0, none⟩ = some (.string nm) := by rw [hb1.cell (by simp)]; exact two_second w _ _ _ _ _ rfl
  have y1 : w1.cell? ⟨w.heap.size + 1, 1, none⟩ = some (.slice pc mc cc) := by rw [hb1.cell (by simp)]; exact two_second w _ _ _ _ _ rfl
  have y2 : w1.cell? ⟨w.heap.size + 1, 2, none⟩ = some (.slice pr rs.length cr) := by rw [hb1.cell (by simp)]; exact two_second w _ _ _ _ _ rfl
  have z1 : w1.cell? ⟨w.heap.size, 1, none⟩ = some (.int .i64 S) := by rw [hb1.cell (by simp; omega)]; exact two_first w _ _ _ _ _ rfl
  have hs1 : w.heap.size + 2 ≤ w1.heap.size := by have := hb1.size; simp at this; omega
  have HB : Hid (Below w.heap.size w w1) := (two_below w _ _).trans (hb1.mono (by simp; omega))
  clear hb1
  go_wp2_with fail
  refine (C2.out _ HB.out).mono ?_
  rintro e w3 ⟨rfl, hb3⟩
  have HB3 : Hid (Below w.heap.size w w3) := HB.out.trans (hb3.mono HB.out.size)
  have x2 : w3.cell? ⟨w.heap.size + 1, 2, none⟩ = some (.slice pr rs.length cr) := by rw [hb3.cell (p := ⟨w.heap.size + 1, _, none⟩) (by show w.heap.size + 1 < _; omega)]; exact y2
  have v1 : w3.cell? ⟨w.heap.size, 1, none⟩ = some (.int .i64 S) := by rw [hb3.cell (p := ⟨w.heap.size, _, none⟩) (by show w.heap.size < _; omega)]; exact z1
  have hs3 : w.heap.size + 2 ≤ w3.heap.size := Nat.le_trans hs1 hb3.size
  clear hb3 y0 y1 y2 z1
  obtain ⟨Z, hZ, hZ0, hmk⟩ : ∃ Z : Array Value, Z.size = S ∧ (∀ j, j < S → Z[j]? = some (.slice none 0 0)) ∧ (Instr.makeSlice 36 (.int .i64 (S : Int)) (.int .i64 (S : Int))).run Tryd.prog w3 = .ok (.slice (some ⟨w3.heap.size, 0, none⟩) S S) (w3.alloc (.cells Z 27)) := by
    obtain ⟨i0, hi, hz0, hz1, hz2⟩ := infoRows
    have := run_make (P := Tryd.prog) (w := w3) 36 27 i0 _ Tryd.underlying36 hi hz0 .i64 .i64 (S : Int) (S : Int) (by omega) (by omega) (by rw [hz2]; omega) (by omega)
    rw [hz1] at this
    refine ⟨madeCells (Value.slice none 0 0).cells (S * 1), by rw [size_madeCells]; omega, fun j hj => ?_, by simpa using this⟩
    have e := toList_madeCells_one (Value.slice none 0 0) (S * 1)
    have e2 : (madeCells (Value.slice none 0 0).cells (S * 1)).toList[j]? = some (.slice none 0 0) := by
      show (madeCells #[Value.slice none 0 0] (S * 1)).toList[j]? = _
      rw [e, List.getElem?_replicate, if_pos (by omega)]
    simpa using e2
  have HJ : Hid (SplJ w3 S (PTr S rs 0 0) (w3.alloc (.cells Z 27))) := (splJ_start w3 S Z hZ hZ0 rs S).congr (fun j _ => by
    unfold PTr
    rw [if_neg (by omega)]
    by_cases e : j = 0
    · rw [if_pos e]
    · rw [if_neg e]; simp [partOf])
  obtain ⟨W3, hW3⟩ : ∃ W3, w3.alloc (.cells Z 27) = W3 := ⟨_, rfl⟩
  rw [hW3] at HJ hmk
  have X2 : Hid (∀ W, Below w3.heap.size w3 W → W.cell? ⟨w.heap.size + 1, 2, none⟩ = some (.slice pr rs.length cr)) := fun W h => by rw [h.cell (p := ⟨w.heap.size + 1, _, none⟩) (by show w.heap.size + 1 < _; omega)]; exact x2
  have V1 : Hid (∀ W, Below w3.heap.size w3 W → W.cell? ⟨w.heap.size, 1, none⟩ = some (.int .i64 S)) := fun W h => by rw [h.cell (p := ⟨w.heap.size, _, none⟩) (by show w.heap.size < _; omega)]; exact v1
  clear hZ hZ0 hW3 x2
  go_wp2_with fail
  go_loopg [24] S (fun gf s24 wx => ∃ s : Nat, s24 = .int .i64 s ∧ s ≤ S ∧ S ≤ s + gf ∧ Hid (SplJ w3 S (PTr S rs s 0) wx))
  case atStart => exact ⟨0, rfl, by omega, by omega, HJ⟩
  case round =>
    clear HJ hmk v1
    obtain ⟨s, rfl, hs1', hsf, HJ⟩ := hrel
    by_cases hsS : s < S
    · obtain ⟨g', rfl⟩ : ∃ g', gk = g' + 1 := ⟨gk - 1, by omega⟩
      have hz1 : (s : Int) < (S : Int) := by omega
      have hz0 : (0 : Int) ≤ (s : Int) := by omega
      have t2 : wr.cell? ⟨w.heap.size + 1, 2, none⟩ = some (.slice pr rs.length cr) := X2.out _ (by obtain ⟨_, _, _, _, _, h, _⟩ := HJ.out; exact h)
      obtain ⟨V0, hV0⟩ : ∃ V0 : World, V0 = wr := ⟨_, rfl⟩
      subst hV0
      go_wp2_with fail
      go_loopg [30] rs.length (fun gf s30 wx => ∃ k : Nat, s30 = .int .i64 k ∧ k ≤ rs.length ∧ rs.length ≤ k + gf ∧ Hid (SplJ w3 S (PTr S rs s k) wx))
      case atStart => exact ⟨0, rfl, by omega, by omega, HJ⟩
      case round =>
        clear HJ t2
        obtain ⟨k, rfl, hk1, hkf, HJ⟩ := hrel
        by_cases hk : k < rs.length
        · obtain ⟨g2, rfl⟩ : ∃ g2, gk = g2 + 1 := ⟨gk - 1, by omega⟩
          have hbw : Below w3.heap.size w3 wr := by obtain ⟨_, _, _, _, _, h, _⟩ := HJ.out; exact h
          obtain ⟨b, o, rfl, hB, hcell⟩ := HR.out.2 (by omega)
          obtain ⟨pu, nu, cu, r0, r1⟩ := hcell k hk
          have hBw : Below w.heap.size w wr := HB3.out.trans (hbw.mono HB3.out.size)
          rw [← hBw.cell (p := ⟨b, _, none⟩) hB] at r0
          have rrow : RowV wr (.slice pu nu cu) rs[k] := (rowA_row r1).below hBw
          obtain ⟨hne, hl8, hval⟩ := HO.out rs[k] (List.getElem_mem hk)
          have hkk := HK.out rs[k] (List.getElem_mem hk)
          have PY := PTr_yes S rs s k hk
          have PN := PTr_no S rs s k hk
          obtain ⟨r, hr⟩ : ∃ r, rs[k] = r := ⟨_, rfl⟩
          rw [hr] at rrow hne hl8 hval hkk PY PN
          obtain ⟨x, xs, rfl⟩ : ∃ x xs, r = x :: xs := by
            cases r with
            | nil => exact absurd rfl hne
            | cons x xs => exact ⟨x, xs, rfl⟩
          have hx := hval x (by simp)
          have hx0 := hkk x (by simp)
          obtain ⟨p', c', ev, hl', hp'⟩ := rrow.form
          simp only [Value.slice.injEq] at ev
          obtain ⟨rfl, rfl, rfl⟩ := ev
          obtain ⟨bb, oo, rfl, hrr, hBB⟩ := hp' (by simp)
          obtain ⟨x0, x1, x2, x3⟩ := hrr 0 (by simp)
          simp only [List.getElem_cons_zero, Nat.zero_mul, Nat.add_zero] at x0 x1 x2 x3
          have CO : Hid (∀ q : LaterS wr.heap.size wr, Calls Tryd.prog 29 #[.agg #[.int .u8 x.k, .bool x.b, .int .i64 x.n, .string x.s], .int .i64 S] q.w fun e w' => e = .returned (.int .i64 (shd S (x :: xs))) ∧ Below q.w.heap.size q.w w') := fun q => refOf_any S x q.w ⟨k3, k4⟩ hx0 (by omega) (by omega)
          have p0 : ∀ q : LaterS wr.heap.size wr, q.w.cell? ⟨bb, oo, none⟩ = some (.int .u8 x.k) := fun q => by rw [q.h.cell (p := ⟨bb, _, none⟩) hBB]; exact x0
          have p1 : ∀ q : LaterS wr.heap.size wr, q.w.cell? ⟨bb, oo + 1, none⟩ = some (.bool x.b) := fun q => by rw [q.h.cell (p := ⟨bb, _, none⟩) hBB]; exact x1
          have p2 : ∀ q : LaterS wr.heap.size wr, q.w.cell? ⟨bb, oo + 2, none⟩ = some (.int .i64 x.n) := fun q => by rw [q.h.cell (p := ⟨bb, _, none⟩) hBB]; exact x2
          have p3 : ∀ q : LaterS wr.heap.size wr, q.w.cell? ⟨bb, oo + 3, none⟩ = some (.string x.s) := fun q => by rw [q.h.cell (p := ⟨bb, _, none⟩) hBB]; exact x3
          have p4 : ∀ q : LaterS wr.heap.size wr, q.w.cell? ⟨w.heap.size, 1, none⟩ = some (.int .i64 S) := fun q => V1.out _ (hbw.trans (q.h.mono hbw.size))
          have hzl : (0 : Int) < ((x :: xs).length : Int) := by simp
          have hz2 : (0 : Int) ≤ (k : Int) := by omega
          have hz3 : (k : Int) < (rs.length : Int) := by omega
          obtain ⟨L, hL⟩ : ∃ L, (x :: xs).length = L := ⟨_, rfl⟩
          have hL8 : L ≤ 8 := by rw [← hL]; exact hl8
          have HRow : Hid (RowV wr (.slice (some ⟨bb, oo, none⟩) L cu) (x :: xs)) := by rw [← hL]; exact rrow
          have HLen : Hid ((x :: xs).length = L) := hL
          rw [hL] at r0 hzl
          obtain ⟨D, hD⟩ : ∃ D, shd S (x :: xs) = D := ⟨_, rfl⟩
          rw [hD] at CO PY PN
          clear hrr hp' rrow hne hl8 hval hkk hr hL hD x0 x1 x2 x3 r1 hcell hx hx0 hl'
          by_cases hD2 : D = (s : Int)
          · have hq : (D == (s : Int)) = true := beq_iff_eq.2 hD2
            have HP : Hid (PTr S rs s (k + 1) = fun j => if j = s then PTr S rs s k j ++ [x :: xs] else PTr S rs s k j) := PY hD2
            clear PY PN hD2
            go_wp2_with fail
            refine wp_region_laterS mixedOnS (by kernel_rfl) ?_
            repeat (go_big_quiet_step ((go_at_call 29; exact calls_laterS (CO.out _))))
            refine wpQuiet_nil ?_
            intro w4 hw'
            obtain ⟨⟨wq, hwq⟩, hw''⟩ := hw'
            subst hw''
            have HJ4 : Hid (SplJ w3 S (PTr S rs s k) w4) := HJ.out.below hwq
            obtain ⟨⟨p0', n0, cc0, hv0⟩, hG⟩ := splJ_at HJ4.out hsS
            have hv0d : w4.drew.cell? ⟨w3.heap.size, s, none⟩ = some (.slice p0' n0 cc0) := hv0
            have hpl := PTr_len S rs s k
            have HRow4 : RowV w4 (.slice (some ⟨bb, oo, none⟩) L cu) (x :: xs) := HRow.out.below hwq
            obtain ⟨q1, m1, c1, W1, pv, nv, cv, W2, hbW, e1, e2, hcell', hfro', hJ6⟩ := refSplit_step HJ4.out hsS HRow4 (by rw [HLen.out]; omega) (by omega) hv0
            have hvA : (w4.drew.alloc (.cells #[] 64)).cell? ⟨w3.heap.size, s, none⟩ = some (.slice p0' n0 cc0) := by rw [World.cell?_of_block (w := w4.drew) (heap_alloc_old w4.drew _ hG)]; exact hv0
            have hvB : W1.cell? ⟨w3.heap.size, s, none⟩ = some (.slice p0' n0 cc0) := by rw [hbW.cell (p := ⟨w3.heap.size, _, none⟩) hG]; exact hv0
            have hvC : (W1.alloc (.cells #[.slice q1 m1 c1] 25)).cell? ⟨w3.heap.size, s, none⟩ = some (.slice p0' n0 cc0) := by rw [World.cell?_of_block (w := W1) (heap_alloc_old W1 _ (Nat.lt_of_lt_of_le hG hbW.size))]; exact hvB
            have HJ6 : Hid (SplJ w3 S (PTr S rs s (k + 1)) (W2.setCell ⟨w3.heap.size, s, none⟩ (.slice pv nv cv))) := by rw [HP.out]; exact hJ6
            clear hJ6 HRow4 hwq p0 p1 p2 p3 p4 HJ HJ4
            have HbW : Hid (Below w4.heap.size w4 W1) := hbW
            clear hbW
            go_wp2_with fail
            go_region_law
              ((first
                | (refine step_append25 _ rfl _ _ rfl _ _ _ _ rfl rfl e1 ?_)
                | (refine step_append27 _ rfl _ _ rfl _ _ _ _ rfl rfl e2 ?_)))
            all_goals
              generalize W2.setCell ⟨w3.heap.size, s, none⟩ (.slice pv nv cv) = W7 at HJ6 ⊢
              clear e1 e2 hcell' hfro' hv0 hv0d hvA hvB hvC HbW
              go_wp2_with fail
              go_roundg g2
              case measure => omega
              case rel => exact ⟨k + 1, by go_num, by omega, by omega, HJ6⟩
          · have hq : (D == (s : Int)) = false := beq_eq_false_iff_ne.2 hD2
            have HP : Hid (PTr S rs s (k + 1) = PTr S rs s k) := PN hD2
            clear PY PN hD2
            go_wp2_with fail
            refine wp_region_laterS mixedOnS (by kernel_rfl) ?_
            repeat (go_big_quiet_step ((go_at_call 29; exact calls_laterS (CO.out _))))
            refine wpQuiet_nil ?_
            intro w4 hw'
            obtain ⟨⟨wq, hwq⟩, hw''⟩ := hw'
            subst hw''
            have HJ4 : Hid (SplJ w3 S (PTr S rs s (k + 1)) w4) := by rw [HP.out]; exact HJ.out.below hwq
            clear hwq p0 p1 p2 p3 p4 HJ
            go_wp2_with fail
            go_roundg g2
            case measure => omega
            case rel => exact ⟨k + 1, by go_num, by omega, by omega, HJ4⟩
        · have hend : k = rs.length := by omega
          have hz3 : ¬ (k : Int) < (rs.length : Int) := by omega
          have HJ2 : Hid (SplJ w3 S (PTr S rs (s + 1) 0) wr) := by rw [← PTr_next, ← hend]; exact HJ.out
          clear HJ hend
          go_wp2_with fail
          go_roundg g'
          case measure => omega
          case rel => exact ⟨s + 1, by go_num, by omega, by omega, HJ2⟩
    · have hend : s = S := by omega
      have hz1 : ¬ (s : Int) < (S : Int) := by omega
      have HF : Hid (SplJ w3 S (partOf S rs) wr) := HJ.out.congr (fun j hj => by unfold PTr; rw [if_pos (by omega)])
      clear HJ HR HK HO hend
      go_wp2_with fail
      go_ret2
      exact ⟨w3, rfl, HB3.out, HF.out⟩
end Go.Proofs.YthfoijnjgdeaaaaDoor
