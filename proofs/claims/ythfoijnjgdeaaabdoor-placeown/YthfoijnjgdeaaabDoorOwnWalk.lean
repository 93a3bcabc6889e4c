/- The law PlaceOwn returns true. -/
import Derived.Test.YthfoijnjgdeaaabDoorPk
namespace Go.Proofs.YthfoijnjgdeaaabDoor
open Go.Shelf Go.RowKit Go.Lib Go.Sort
set_option linter.unusedVariables false
set_option linter.unusedSimpArgs false
attribute [local go_sem ↓] Go.wp_at_zero Go.wp_at_succ
set_option maxRecDepth 100000 in
set_option maxHeartbeats 8000000 in
theorem own_core (N S R : Int) (nm : ByteArray) (pc : Option Addr) (mc cc : Nat) (cs : List Col) (pr : Option Addr) (cr : Nat) (rs : List (List Val)) (w : World) (hs : nm.size ≤ 9223372036854775807) (hT : Lib.Utf8Tabs 0 1 w) (hc : ColA w (.slice pc mc cc) cs) (hr : RowsA w pr rs) (hk : ∀ r ∈ rs, ∀ x ∈ r, 0 ≤ x.k) (hn : (rs.length + 1) * 24 ≤ 140737488355328) (hl : ∀ r ∈ rs, r.length * 32 ≤ 140737488355328) :
    Calls Tryd.prog 3 #[.agg #[.int .i64 N, .int .i64 S, .int .i64 R], .agg #[.string nm, .slice pc mc cc, .slice pr rs.length cr]] w fun e w' => e = .returned (.bool true) ∧ Below w.heap.size w w' := by
  have HT : Hid (Lib.Utf8Tabs 0 1 w) := hT
  have HC : Hid (ColA w (.slice pc mc cc) cs) := hc
  have HR : Hid (RowsA w pr rs) := hr
  have HK : Hid (∀ r ∈ rs, ∀ x ∈ r, 0 ≤ x.k) := hk
  have HL : Hid (∀ r ∈ rs, r.length * 32 ≤ 140737488355328) := hl
  clear hT hc hr hk hl
  go_enter Tryd.func3, Tryd.ntmps3
  go_wp2_with fail
  refine (layLives_any _).mono ?_
  rintro e w1 ⟨rfl, hb1⟩
  have y0 : w1.cell? ⟨w.heap.size + 1, 0, none⟩ = some (.string nm) := by rw [hb1.cell (by simp)]; exact two_second w _ _ _ _ _ rfl
  have y1 : w1.cell? ⟨w.heap.size + 1, 1, none⟩ = some (.slice pc mc cc) := by rw [hb1.cell (by simp)]; exact two_second w _ _ _ _ _ rfl
  have y2 : w1.cell? ⟨w.heap.size + 1, 2, none⟩ = some (.slice pr rs.length cr) := by rw [hb1.cell (by simp)]; exact two_second w _ _ _ _ _ rfl
  have z0 : w1.cell? ⟨w.heap.size, 0, none⟩ = some (.int .i64 N) := by rw [hb1.cell (by simp; omega)]; exact two_first w _ _ _ _ _ rfl
  have z1 : w1.cell? ⟨w.heap.size, 1, none⟩ = some (.int .i64 S) := by rw [hb1.cell (by simp; omega)]; exact two_first w _ _ _ _ _ rfl
  have z2 : w1.cell? ⟨w.heap.size, 2, none⟩ = some (.int .i64 R) := by rw [hb1.cell (by simp; omega)]; exact two_first w _ _ _ _ _ rfl
  have hs1 : w.heap.size + 2 ≤ w1.heap.size := by have := hb1.size; simp at this; omega
  have HB : Hid (Below w.heap.size w w1) := (two_below w _ _).trans (hb1.mono (by simp; omega))
  clear hb1
  go_wp2_with fail
  refine (refCopy_any (.slice pr rs.length cr) rs w1 (rowsA_rows cr (HR.out.below HB.out)) (by omega) HL.out).mono ?_
  rintro e w2 ⟨gv, rfl, hG⟩
  obtain ⟨pg, cg, rfl⟩ : ∃ pg cg, gv = .slice pg rs.length cg := by
    obtain ⟨pg, cg, e, _⟩ := hG.rows (by omega); exact ⟨pg, cg, e⟩
  have HG : Hid (RowsL w2 (.slice pg rs.length cg) rs) := hG.rows (by omega)
  have hb2 : Below w1.heap.size w1 w2 := hG.below
  have t0 : w2.cell? ⟨w.heap.size + 1, 0, none⟩ = some (.string nm) := by rw [hb2.cell (p := ⟨w.heap.size + 1, _, none⟩) (by show w.heap.size + 1 < _; omega)]; exact y0
  have t1 : w2.cell? ⟨w.heap.size + 1, 1, none⟩ = some (.slice pc mc cc) := by rw [hb2.cell (p := ⟨w.heap.size + 1, _, none⟩) (by show w.heap.size + 1 < _; omega)]; exact y1
  have t2 : w2.cell? ⟨w.heap.size + 1, 2, none⟩ = some (.slice pr rs.length cr) := by rw [hb2.cell (p := ⟨w.heap.size + 1, _, none⟩) (by show w.heap.size + 1 < _; omega)]; exact y2
  have l0 : w2.cell? ⟨w.heap.size, 0, none⟩ = some (.int .i64 N) := by rw [hb2.cell (p := ⟨w.heap.size, _, none⟩) (by show w.heap.size < _; omega)]; exact z0
  have l1 : w2.cell? ⟨w.heap.size, 1, none⟩ = some (.int .i64 S) := by rw [hb2.cell (p := ⟨w.heap.size, _, none⟩) (by show w.heap.size < _; omega)]; exact z1
  have l2 : w2.cell? ⟨w.heap.size, 2, none⟩ = some (.int .i64 R) := by rw [hb2.cell (p := ⟨w.heap.size, _, none⟩) (by show w.heap.size < _; omega)]; exact z2
  have hs2 : w.heap.size + 2 ≤ w2.heap.size := by have := hb2.size; omega
  have HB2 : Hid (Below w.heap.size w w2) := HB.out.trans (hb2.mono HB.out.size)
  clear hb2 hG HB y0 y1 y2 z0 z1 z2 hs1
  go_wp2_with fail
  refine (splitOwn_any N S R nm pc mc cc cs pr cr rs w2 hs (Utf8Tabs_below HT.out HB2.out) (HC.out.below HB2.out) (HR.out.below HB2.out) HK.out).mono ?_
  rintro e w4 ⟨w3, pa, n, E, rfl, hn8, hb3, hJ⟩
  have HJ : Hid (SpJ w3 pa n (partOf S rs) w4) := hJ
  have HB3 : Hid (Below w2.heap.size w2 w3) := hb3
  have HPl : Hid (∀ j, (partOf S rs j).length ≤ rs.length) := fun j => partOf_len _ _ _
  have HPm : Hid (∀ j, ∀ r ∈ partOf S rs j, r.length * 32 ≤ 140737488355328) := fun j r hr => HL.out r (List.mem_filter.1 hr).1
  have Y : Hid (w2.cell? ⟨w.heap.size + 1, 2, none⟩ = some (.slice pr rs.length cr) ∧ w2.cell? ⟨w.heap.size, 0, none⟩ = some (.int .i64 N) ∧ w2.cell? ⟨w.heap.size, 1, none⟩ = some (.int .i64 S) ∧ w2.cell? ⟨w.heap.size, 2, none⟩ = some (.int .i64 R)) := ⟨t2, l0, l1, l2⟩
  clear hJ hb3 t0 t1 t2 l0 l1 l2
  go_wp2_with fail
  go_loopg [26] n (fun gf s26 wx => ∃ i : Nat, s26 = .int .i64 i ∧ i ≤ n ∧ n ≤ i + gf ∧ Hid (SpJ w3 pa n (partOf S rs) wx))
  case atStart => exact ⟨0, rfl, by omega, by omega, HJ⟩
  case round =>
    clear HJ
    obtain ⟨i, rfl, hi1, hgf, HJ⟩ := hrel
    by_cases hi : i < n
    · obtain ⟨g', rfl⟩ : ∃ g', gk = g' + 1 := ⟨gk - 1, by omega⟩
      obtain ⟨ks, hks⟩ : ∃ ks, partOf S rs i = ks := ⟨_, rfl⟩
      obtain ⟨g, v, rfl, x0, hL⟩ : ∃ g v, pa = some ⟨g, 0, none⟩ ∧ wr.cell? ⟨g, i, none⟩ = some v ∧ Lst w3.heap.size wr v ks := by
        obtain ⟨g, cur, e, hg, hc⟩ := HJ.out.2 (by omega)
        obtain ⟨v, h1, h2⟩ := hc i hi
        exact ⟨g, v, e, by simp [World.cell?, hg, h1], by rw [← hks]; exact h2⟩
      have hkl : ks.length ≤ rs.length := by rw [← hks]; exact HPl.out i
      have HKm : Hid (∀ r ∈ ks, r.length * 32 ≤ 140737488355328) := by rw [← hks]; exact HPm.out i
      obtain ⟨M, hM⟩ : ∃ M, ks.length = M := ⟨_, rfl⟩
      have HM : Hid (ks.length = M) := hM
      obtain ⟨pv, cv, rfl⟩ : ∃ pv cv, v = .slice pv M cv := by
        rcases hL with ⟨rfl, h0⟩ | ⟨b, cap, cur, rfl, _⟩
        · exact ⟨none, 0, by rw [← hM, h0]⟩
        · exact ⟨_, _, by rw [hM]⟩
      have HLs : Hid (Lst w3.heap.size wr (.slice pv M cv) ks) := hL
      rw [hM] at hkl
      have hz0 : (0 : Int) ≤ (i : Int) := by omega
      have hz1 : (i : Int) < (n : Int) := by omega
      clear hL hM hks
      obtain ⟨V0, hV0⟩ : ∃ V0 : World, V0 = wr := ⟨_, rfl⟩
      subst hV0
      go_wp2_with fail
      go_loopg [32] M (fun gf s32 wx => ∃ m : Nat, s32 = .int .i64 m ∧ m ≤ M ∧ M ≤ m + gf ∧ Hid (SpJ w3 (some ⟨g, 0, none⟩) n (partOf S rs) wx) ∧ Hid (Lst w3.heap.size wx (.slice pv M cv) ks))
      case atStart => exact ⟨0, rfl, by omega, by omega, HJ, HLs⟩
      case round =>
        clear HJ HLs x0
        obtain ⟨m, rfl, hm1, hmf, HJ, HLs⟩ := hrel
        by_cases hm : m < M
        · obtain ⟨g2, rfl⟩ : ∃ g2, gk = g2 + 1 := ⟨gk - 1, by omega⟩
          obtain ⟨xs, hxs⟩ : ∃ xs, ks[m]? = some xs := ⟨_, List.getElem?_eq_getElem (by rw [HM.out]; exact hm)⟩
          obtain ⟨gr, u, rfl, x1, hU⟩ : ∃ gr u, pv = some ⟨gr, 0, none⟩ ∧ wr.cell? ⟨gr, m, none⟩ = some u ∧ Shp w3.heap.size wr u xs.length := by
            rcases HLs.out with ⟨e, h0⟩ | ⟨gr, cap, cur, e, hg, hc⟩
            · rw [HM.out] at h0; omega
            · simp only [Value.slice.injEq] at e
              obtain ⟨rfl, _, rfl⟩ := e
              obtain ⟨u, h1, h2⟩ := hc m (by rw [HM.out]; exact hm)
              have e2 : ks[m]'(by rw [HM.out]; exact hm) = xs := by
                have := List.getElem?_eq_getElem (l := ks) (by rw [HM.out]; exact hm : m < ks.length)
                rw [this] at hxs; exact Option.some.inj hxs
              exact ⟨gr, u, rfl, by simp [World.cell?, hg, h1], by rw [← e2]; exact h2⟩
          obtain ⟨L, hLx⟩ : ∃ L, xs.length = L := ⟨_, rfl⟩
          rw [hLx] at hU
          have hLb : L * 32 ≤ 140737488355328 := by rw [← hLx]; exact HKm.out _ (List.mem_of_getElem? hxs)
          obtain ⟨pu, cu, rfl⟩ : ∃ pu cu, u = .slice pu L cu := by
            rcases hU with ⟨rfl, rfl⟩ | ⟨b, cap, cur, rfl, _⟩
            · exact ⟨_, _, rfl⟩
            · exact ⟨_, _, rfl⟩
          have HU : Hid (Shp w3.heap.size wr (.slice pu L cu) L) := hU
          have hz2 : (0 : Int) ≤ (m : Int) := by omega
          have hz3 : (m : Int) < (M : Int) := by omega
          clear hU hxs hLx
          obtain ⟨V1, hV1⟩ : ∃ V1 : World, V1 = wr := ⟨_, rfl⟩
          subst hV1
          go_wp2_with fail
          go_loopg [38] L (fun gf s38 wx => ∃ k : Nat, s38 = .int .i64 k ∧ k ≤ L ∧ L ≤ k + gf ∧ Hid (SpJ w3 (some ⟨g, 0, none⟩) n (partOf S rs) wx) ∧ Hid (Lst w3.heap.size wx (.slice (some ⟨gr, 0, none⟩) M cv) ks) ∧ Hid (Shp w3.heap.size wx (.slice pu L cu) L))
          case atStart => exact ⟨0, rfl, by omega, by omega, HJ, HLs, HU⟩
          case round =>
            clear HJ HLs HU x1
            obtain ⟨k, rfl, hk1, hkf, HJ, HLs, HU⟩ := hrel
            by_cases hk : k < L
            · obtain ⟨g3, rfl⟩ : ∃ g3, gk = g3 + 1 := ⟨gk - 1, by omega⟩
              obtain ⟨b, cur, nn, rfl, hb, hg, hcn⟩ : ∃ b cur nn, pu = some ⟨b, 0, none⟩ ∧ w3.heap.size ≤ b ∧ wr.heap[b]? = some (.cells cur 38 (0, 0)) ∧ cur[k * 4 + 2]? = some (.int .i64 nn) := by
                rcases HU.out with ⟨e2, e3⟩ | ⟨b, cap', cur, e2, hb, hg, hn⟩
                · omega
                · simp only [Value.slice.injEq] at e2
                  obtain ⟨rfl, _, rfl⟩ := e2
                  obtain ⟨nn, hn⟩ := hn k hk
                  exact ⟨b, cur, nn, rfl, hb, hg, hn⟩
              have y0 : wr.cell? ⟨b, k * 4 + 2, none⟩ = some (.int .i64 nn) := by simp [World.cell?, hg, hcn]
              have y1 : wr.frozen? ⟨b, k * 4 + 2, none⟩ = false := frozen_zero hg _
              have HS : Hid (∀ x : Int, Spoilt w3.heap.size wr (wr.setCell ⟨b, k * 4 + 2, none⟩ (.int .i64 x))) := fun x => spoilt_step hb hg x
              have hz4 : (0 : Int) ≤ (k : Int) := by omega
              have hz5 : (k : Int) < (L : Int) := by omega
              clear hg hcn
              go_wp2_with fail
              go_roundg g3
              case measure => omega
              case rel => exact ⟨k + 1, by go_num, by omega, by omega, HJ.out.spoilt (HS.out _), HLs.out.spoilt (HS.out _), (HS.out _).shp _ _ HU.out⟩
            · have hz5 : ¬ (k : Int) < (L : Int) := by omega
              go_wp2_with fail
              go_roundg g2
              case measure => omega
              case rel => exact ⟨m + 1, by go_num, by omega, by omega, HJ, HLs⟩
        · have hz3 : ¬ (m : Int) < (M : Int) := by omega
          go_wp2_with fail
          go_roundg g'
          case measure => omega
          case rel => exact ⟨i + 1, by go_num, by omega, by omega, HJ⟩
    · have hz1 : ¬ (i : Int) < (n : Int) := by omega
      have hb4 : Below w2.heap.size w2 wr := HB3.out.trans (HJ.out.1.mono HB3.out.size)
      have HBw : Hid (Below w.heap.size w wr) := HB2.out.trans (hb4.mono HB2.out.size)
      have f2 : ∀ q : LaterS wr.heap.size wr, q.w.cell? ⟨w.heap.size + 1, 2, none⟩ = some (.slice pr rs.length cr) := fun q => by
        have h := hb4.trans (q.h.mono hb4.size)
        rw [h.cell (p := ⟨w.heap.size + 1, _, none⟩) (by show w.heap.size + 1 < _; omega)]; exact Y.out.1
      have e0 : ∀ q : LaterS wr.heap.size wr, q.w.cell? ⟨w.heap.size, 0, none⟩ = some (.int .i64 N) := fun q => by
        have h := hb4.trans (q.h.mono hb4.size)
        rw [h.cell (p := ⟨w.heap.size, _, none⟩) (by show w.heap.size < _; omega)]; exact Y.out.2.1
      have e1 : ∀ q : LaterS wr.heap.size wr, q.w.cell? ⟨w.heap.size, 1, none⟩ = some (.int .i64 S) := fun q => by
        have h := hb4.trans (q.h.mono hb4.size)
        rw [h.cell (p := ⟨w.heap.size, _, none⟩) (by show w.heap.size < _; omega)]; exact Y.out.2.2.1
      have e2 : ∀ q : LaterS wr.heap.size wr, q.w.cell? ⟨w.heap.size, 2, none⟩ = some (.int .i64 R) := fun q => by
        have h := hb4.trans (q.h.mono hb4.size)
        rw [h.cell (p := ⟨w.heap.size, _, none⟩) (by show w.heap.size < _; omega)]; exact Y.out.2.2.2
      have C1 : Hid (∀ q : LaterS wr.heap.size wr, Calls Tryd.prog 7 #[.slice pr rs.length cr, .slice pg rs.length cg] q.w fun e w' => e = .returned (.bool true) ∧ Below q.w.heap.size q.w w') := fun q => by
        have h := hb4.trans (q.h.mono hb4.size)
        have h' := HBw.out.trans (q.h.mono HBw.out.size)
        have := same_any (.slice pr rs.length cr) (.slice pg rs.length cg) rs rs q.w (rowsA_rows cr (HR.out.below h')) (HG.out.below h)
        rwa [(sameRs_iff rs rs).2 rfl] at this
      have C2 : Hid (∀ q : LaterS wr.heap.size wr, Calls Tryd.prog 8 #[.agg #[.int .i64 N, .int .i64 S, .int .i64 R]] q.w fun e w' => e = .returned (.int .i64 (layE N S R)) ∧ Below q.w.heap.size q.w w') := fun q => refLay_any N S R q.w
      have C3 : Hid (∀ q : LaterS wr.heap.size wr, Calls Tryd.prog 9 #[.agg #[.int .i64 N, .int .i64 S, .int .i64 R]] q.w fun e w' => e = .returned (.int .i64 (layE N S R)) ∧ Below q.w.heap.size q.w w') := fun q => layCheck_any N S R q.w
      obtain ⟨LE, hLE⟩ : ∃ LE, layE N S R = LE := ⟨_, rfl⟩
      rw [hLE] at C2 C3
      have hee : (LE == LE) = true := by simp
      clear HJ hb4 hLE
      go_wp2_with fail
      have inhL := laterInh
      refine wp_region_laterS mixedOnS (by kernel_rfl) ?_
      repeat (go_big_quiet_step (first | (go_at_call 7; exact calls_laterS (C1.out _)) | (go_at_call 8; exact calls_laterS (C2.out _)) | (go_at_call 9; exact calls_laterS (C3.out _))))
      refine wpQuiet_nil ?_
      intro w8 hw'
      obtain ⟨⟨wq, hwq⟩, hw''⟩ := hw'
      subst hw''
      have HW8 : Hid (Below w.heap.size w w8) := HBw.out.trans (hwq.mono HBw.out.size)
      clear hwq f2 e0 e1 e2
      go_wp2_with fail
      go_ret
      exact ⟨rfl, HW8.out⟩
end Go.Proofs.YthfoijnjgdeaaabDoor
