/- The law PlaceTurned returns true. -/
import Derived.Test.YthfoijnjgdeaaaaDoorPj
import Derived.Deep.RegionLaw
namespace Go.Proofs.YthfoijnjgdeaaaaDoor
open Go.Shelf Go.RowKit Go.Lib Go.Sort
set_option linter.unusedVariables false
set_option linter.unusedSimpArgs false
attribute [local go_sem ↓] Go.wp_at_zero Go.wp_at_succ
set_option maxRecDepth 100000 in
set_option maxHeartbeats 8000000 in
theorem turned_core (N S R : Int) (nm : ByteArray) (pc : Option Addr) (mc cc : Nat) (cs : List Col) (pr : Option Addr) (cr : Nat) (rs : List (List Val)) (w : World) (hs : nm.size ≤ 9223372036854775807) (hT : Lib.Utf8Tabs 0 1 w) (hc : ColA w (.slice pc mc cc) cs) (hr : RowsA w pr rs) (hk : ∀ r ∈ rs, ∀ x ∈ r, 0 ≤ x.k) (hn : (rs.length + 1) * 24 ≤ 140737488355328) :
    Calls Tryd.prog 7 #[.agg #[.int .i64 N, .int .i64 S, .int .i64 R], .agg #[.string nm, .slice pc mc cc, .slice pr rs.length cr]] w fun e w' => e = .returned (.bool true) ∧ Below w.heap.size w w' := by
  have HT : Hid (Lib.Utf8Tabs 0 1 w) := hT
  have HC : Hid (ColA w (.slice pc mc cc) cs) := hc
  have HR : Hid (RowsA w pr rs) := hr
  have HK : Hid (∀ r ∈ rs, ∀ x ∈ r, 0 ≤ x.k) := hk
  clear hT hc hr hk
  go_enter Tryd.func7, Tryd.ntmps7
  go_wp2_with fail
  refine (layLives_any _).mono ?_
  rintro e w1 ⟨rfl, hb1⟩
  have y0 : w1.cell? ⟨w.heap.size + 1, 0, none⟩ = some (.string nm) := by rw [hb1.cell (by simp)]; exact two_second w _ _ _ _ _ rfl
  have y1 : w1.cell? ⟨w.heap.size + 1, 1, none⟩ = some (.slice pc mc cc) := by rw [hb1.cell (by simp)]; exact two_second w _ _ _ _ _ rfl
  have y2 : w1.cell? ⟨w.heap.size + 1, 2, none⟩ = some (.slice pr rs.length cr) := by rw [hb1.cell (by simp)]; exact two_second w _ _ _ _ _ rfl
  have z0 : w1.cell? ⟨w.heap.size, 0, none⟩ = some (.int .i64 N) := by rw [hb1.cell (by simp; omega)]; exact two_first w _ _ _ _ _ rfl
  have z1 : w1.cell? ⟨w.heap.size, 1, none⟩ = some (.int .i64 S) := by rw [hb1.cell (by simp; omega)]; exact two_first w _ _ _ _ _ rfl
  have z2 : w1.cell? ⟨w.heap.size, 2, none⟩ = some (.int .i64 R) := by rw [hb1.cell (by simp; omega)]; exact two_first w _ _ _ _ _ rfl
  have hs1 : w.heap.size + 2 ≤ w1.heap.size := by have := hb1.size; simp at this; omega
  have HB : Hid (Below w.heap.size w w1) := (two_below w _ _).trans (hb1.mono (by simp; omega))
  have hwn : IntKind.i64.wrap ((rs.length : Int) - 1) = (rs.length : Int) - 1 := by rw [IntKind.wrap_i64]; omega
  clear hb1
  have HJ : Hid (TurnJ w1 nm (.slice pc mc cc) [] (.slice none 0 0) (w1.alloc (.cells #[.string nm, .slice pc mc cc, .slice none 0 0] 29))) := turn_start w1 nm _
  have x2 : (w1.alloc (.cells #[.string nm, .slice pc mc cc, .slice none 0 0] 29)).cell? ⟨w.heap.size + 1, 2, none⟩ = some (.slice pr rs.length cr) := by rw [World.cell?_of_block (w := w1) (heap_alloc_old w1 _ (show w.heap.size + 1 < w1.heap.size by omega))]; exact y2
  go_wp2_with fail
  generalize w1.alloc (.cells #[.string nm, .slice pc mc cc, .slice none 0 0] 29) = W2 at HJ ⊢
  clear x2
  go_loopg [6] rs.length (fun gf s6 wx => ∃ (m : Nat) (p : Option Addr) (n c : Nat), s6 = .int .i64 ((rs.length : Int) - 1 - (m : Int)) ∧ m ≤ rs.length ∧ rs.length ≤ m + gf ∧ Hid (TurnJ w1 nm (.slice pc mc cc) (rs.reverse.take m) (.slice p n c) wx))
  case atStart => exact ⟨0, none, 0, 0, by simp, by omega, by omega, HJ⟩
  case round =>
    clear HJ
    obtain ⟨m, p, n, c, rfl, hm1, hgf, HJ⟩ := hrel
    have HBw : Hid (Below w1.heap.size w1 wr) := HJ.out.2.1
    by_cases hm : m < rs.length
    · obtain ⟨g', rfl⟩ : ∃ g', gk = g' + 1 := ⟨gk - 1, by omega⟩
      obtain ⟨b, o, rfl, hB, hcell⟩ := HR.out.2 (by omega)
      obtain ⟨iN, hiN⟩ : ∃ iN, rs.length - 1 - m = iN := ⟨_, rfl⟩
      have hi : iN < rs.length := by omega
      obtain ⟨pu, nu, cu, r0, r1⟩ := hcell iN hi
      have hBw : Below w.heap.size w wr := HB.out.trans (HBw.out.mono HB.out.size)
      rw [← hBw.cell (p := ⟨b, _, none⟩) hB] at r0
      have hrt := rev_take rs m hm
      have er : rs[rs.length - 1 - m]'(by omega) = rs[iN] := by congr 1
      rw [er] at hrt
      obtain ⟨p', n', c', W', hrun, ⟨ob, hcell'⟩, hfro', hJ'⟩ := turn_step HJ.out (r1.below HB.out) (by simp; omega) 27
      have HJ2 : Hid (TurnJ w1 nm (.slice pc mc cc) (rs.reverse.take (m + 1)) (.slice p' n' c') (W'.setCell ⟨w1.heap.size, 2, none⟩ (.slice p' n' c'))) := by rw [hrt]; exact hJ'
      have hlt : w1.heap.size < wr.heap.size := by obtain ⟨h, _⟩ := HJ.out; exact (Array.getElem?_eq_some_iff.1 h).1
      have b2 : wr.cell? ⟨w1.heap.size, 2, none⟩ = some (.slice p n c) := by obtain ⟨h, _⟩ := HJ.out; simp [World.cell?, h]
      have b2' : (wr.alloc (.cells #[.slice pu nu cu] 25)).cell? ⟨w1.heap.size, 2, none⟩ = some (.slice p n c) := by rw [World.cell?_of_block (w := wr) (heap_alloc_old wr _ hlt)]; exact b2
      have t2 : wr.cell? ⟨w.heap.size + 1, 2, none⟩ = some (.slice (some ⟨b, o, none⟩) rs.length cr) := by rw [HBw.out.cell (p := ⟨w.heap.size + 1, _, none⟩) (by show w.heap.size + 1 < _; omega)]; exact y2
      have ei : (rs.length : Int) - 1 - (m : Int) = (iN : Int) := by omega
      have HEi : Hid ((rs.length : Int) - 1 - (m : Int) = (iN : Int)) := ei
      rw [ei]
      have hz0 : (0 : Int) ≤ (iN : Int) := by omega
      have hz1 : (iN : Int) < (rs.length : Int) := by omega
      have hw : IntKind.i64.wrap ((iN : Int) - 1) = (iN : Int) - 1 := by rw [IntKind.wrap_i64]; omega
      clear hcell r1 hJ' hrt er ei HJ
      go_wp2_with fail
      go_region_law
        ((first
          | (refine step_append27 _ rfl _ _ rfl _ _ _ _ rfl rfl hrun ?_)))
      all_goals
        generalize W'.setCell ⟨w1.heap.size, 2, none⟩ (.slice p' n' c') = W7 at HJ2 ⊢
        clear hrun hcell' hfro' b2 b2' t2 r0
        go_wp2_with fail
        go_roundg g'
        case measure => omega
        case rel => exact ⟨m + 1, p', n', c', by have := HEi.out; congr 1; omega, by omega, by omega, HJ2⟩
    · have hend : m = rs.length := by omega
      have hJ := HJ.out
      rw [hend, List.take_of_length_le (by simp)] at hJ
      obtain ⟨pv, cv, ev, hrv⟩ := hJ.rows (by simp; omega)
      rw [List.length_reverse] at ev
      simp only [Value.slice.injEq] at ev
      obtain ⟨rfl, rfl, rfl⟩ := ev
      have HRv : Hid (RowsA wr p rs.reverse) := hrv
      have hlt : w1.heap.size < wr.heap.size := by obtain ⟨h, _⟩ := hJ; exact (Array.getElem?_eq_some_iff.1 h).1
      have b0 : wr.cell? ⟨w1.heap.size, 0, none⟩ = some (.string nm) := by obtain ⟨h, _⟩ := hJ; simp [World.cell?, h]
      have b1 : wr.cell? ⟨w1.heap.size, 1, none⟩ = some (.slice pc mc cc) := by obtain ⟨h, _⟩ := hJ; simp [World.cell?, h]
      have b2 : wr.cell? ⟨w1.heap.size, 2, none⟩ = some (.slice p rs.length c) := by obtain ⟨h, _⟩ := hJ; simp [World.cell?, h]
      have t0 : wr.cell? ⟨w.heap.size + 1, 0, none⟩ = some (.string nm) := by rw [HBw.out.cell (p := ⟨w.heap.size + 1, _, none⟩) (by show w.heap.size + 1 < _; omega)]; exact y0
      have t1 : wr.cell? ⟨w.heap.size + 1, 1, none⟩ = some (.slice pc mc cc) := by rw [HBw.out.cell (p := ⟨w.heap.size + 1, _, none⟩) (by show w.heap.size + 1 < _; omega)]; exact y1
      have t2 : wr.cell? ⟨w.heap.size + 1, 2, none⟩ = some (.slice pr rs.length cr) := by rw [HBw.out.cell (p := ⟨w.heap.size + 1, _, none⟩) (by show w.heap.size + 1 < _; omega)]; exact y2
      have l0 : wr.cell? ⟨w.heap.size, 0, none⟩ = some (.int .i64 N) := by rw [HBw.out.cell (p := ⟨w.heap.size, _, none⟩) (by show w.heap.size < _; omega)]; exact z0
      have l1 : wr.cell? ⟨w.heap.size, 1, none⟩ = some (.int .i64 S) := by rw [HBw.out.cell (p := ⟨w.heap.size, _, none⟩) (by show w.heap.size < _; omega)]; exact z1
      have l2 : wr.cell? ⟨w.heap.size, 2, none⟩ = some (.int .i64 R) := by rw [HBw.out.cell (p := ⟨w.heap.size, _, none⟩) (by show w.heap.size < _; omega)]; exact z2
      have hsr : w.heap.size + 2 < wr.heap.size + 1 := by omega
      have HWr : Hid (Below w.heap.size w wr) := HB.out.trans (HBw.out.mono HB.out.size)
      have hng : ¬ (0 : Int) ≤ (rs.length : Int) - 1 - (m : Int) := by omega
      have hrl : rs.reverse.length = rs.length := List.length_reverse
      clear hJ hrv HJ HBw y0 y1 y2 z0 z1 z2 hend
      by_cases he : splitE N S R nm cs rs = 0
      · have h0 : layE N S R = 0 := by
          unfold splitE at he
          by_cases h0 : layE N S R = 0
          · exact h0
          · rw [if_neg h0] at he; exact absurd he h0
        obtain ⟨k1, k2, k3, k4, k5, k6⟩ := layE_zero.1 h0
        obtain ⟨S', rfl⟩ : ∃ S' : Nat, S = (S' : Int) := ⟨S.toNat, by omega⟩
        have he' : splitE N S' R nm cs rs.reverse = 0 := (splitE_rev _ _ _ _ _ _).2 he
        have ht : tableV nm cs rs = 0 := by unfold splitE at he; rw [if_pos h0] at he; exact he
        have hn64 := (table_ok ht).1
        have C1 : Hid (Calls Tryd.prog 13 #[.agg #[.int .i64 N, .int .i64 S', .int .i64 R], .agg #[.string nm, .slice pc mc cc, .slice pr rs.length cr]] wr fun e w' => ∃ w3, e = .returned (.tuple #[.slice (some ⟨w3.heap.size, 0, none⟩) S' S', .int .i64 0]) ∧ Below wr.heap.size wr w3 ∧ SplJ w3 S' (partOf S' rs) w') := split_good N S' R nm pc mc cc cs pr cr rs wr hs (Utf8Tabs_below HT.out HWr.out) (HC.out.below HWr.out) (HR.out.below HWr.out) HK.out he
        have C2 : Hid (∀ W, Below wr.heap.size wr W → Calls Tryd.prog 13 #[.agg #[.int .i64 N, .int .i64 S', .int .i64 R], .agg #[.string nm, .slice pc mc cc, .slice p rs.length c]] W fun e w' => ∃ w3, e = .returned (.tuple #[.slice (some ⟨w3.heap.size, 0, none⟩) S' S', .int .i64 0]) ∧ Below W.heap.size W w3 ∧ SplJ w3 S' (partOf S' rs.reverse) w') := fun W h => by
          have hw : Below w.heap.size w W := HWr.out.trans (h.mono HWr.out.size)
          have := split_good N S' R nm pc mc cc cs p c rs.reverse W hs (Utf8Tabs_below HT.out hw) (HC.out.below hw) (HRv.out.below h) (fun r hr x hx => HK.out r (by simpa using hr) x hx) he'
          rwa [hrl] at this
        clear he he' h0 ht hrl
        go_wp2_with fail
        refine C1.out.mono ?_
        rintro e w2 ⟨wa, rfl, hba, hJa⟩
        have hb2 : Below wr.heap.size wr w2 := by
          have hb : Below wa.heap.size wa w2 := by obtain ⟨_, _, _, _, _, h, _⟩ := hJa; exact h
          exact hba.trans (hb.mono hba.size)
        have HJa : Hid (SplJ wa S' (partOf S' rs) w2) := hJa
        have HB2 : Hid (Below wr.heap.size wr w2) := hb2
        have d0 : w2.cell? ⟨w1.heap.size, 0, none⟩ = some (.string nm) := by rw [hb2.cell (p := ⟨w1.heap.size, _, none⟩) hlt]; exact b0
        have d1 : w2.cell? ⟨w1.heap.size, 1, none⟩ = some (.slice pc mc cc) := by rw [hb2.cell (p := ⟨w1.heap.size, _, none⟩) hlt]; exact b1
        have d2 : w2.cell? ⟨w1.heap.size, 2, none⟩ = some (.slice p rs.length c) := by rw [hb2.cell (p := ⟨w1.heap.size, _, none⟩) hlt]; exact b2
        have f0 : w2.cell? ⟨w.heap.size, 0, none⟩ = some (.int .i64 N) := by rw [hb2.cell (p := ⟨w.heap.size, _, none⟩) (by show w.heap.size < _; omega)]; exact l0
        have f1 : w2.cell? ⟨w.heap.size, 1, none⟩ = some (.int .i64 S') := by rw [hb2.cell (p := ⟨w.heap.size, _, none⟩) (by show w.heap.size < _; omega)]; exact l1
        have f2 : w2.cell? ⟨w.heap.size, 2, none⟩ = some (.int .i64 R) := by rw [hb2.cell (p := ⟨w.heap.size, _, none⟩) (by show w.heap.size < _; omega)]; exact l2
        clear hba hJa hb2 C1 b0 b1 b2 t0 t1 t2 l0 l1 l2
        go_wp2_with fail
        refine (C2.out _ HB2.out).mono ?_
        rintro e w3 ⟨wb, rfl, hbb, hJb⟩
        have hb3 : Below w2.heap.size w2 w3 := by
          have hb : Below wb.heap.size wb w3 := by obtain ⟨_, _, _, _, _, h, _⟩ := hJb; exact h
          exact hbb.trans (hb.mono hbb.size)
        have HJb : Hid (SplJ wb S' (partOf S' rs.reverse) w3) := hJb
        have HJa3 : Hid (SplJ wa S' (partOf S' rs) w3) := HJa.out.below hb3
        have HB3 : Hid (Below w.heap.size w w3) := by
          have h2 := HWr.out.trans (HB2.out.mono HWr.out.size)
          exact h2.trans (hb3.mono h2.size)
        clear hbb hJb hb3 HJa d0 d1 d2 f0 f1 f2 C2
        have hne0 : ((S' : Int) != (S' : Int)) = false := by simp
        go_wp2_with fail
        go_loopg [66] S' (fun gf s66 wx => ∃ i : Nat, s66 = .int .i64 i ∧ i ≤ S' ∧ S' ≤ i + gf ∧ Hid (Below w3.heap.size w3 wx))
        case atStart => exact ⟨0, rfl, by omega, by omega, Below.refl _ _⟩
        case round =>
          obtain ⟨i, rfl, hi1, hgi, HBi⟩ := hrel
          by_cases hi : i < S'
          · obtain ⟨g', rfl⟩ : ∃ g', gk = g' + 1 := ⟨gk - 1, by omega⟩
            have la : (partOf S' rs i).length ≤ 64 := Nat.le_trans (partOf_len _ _ _) hn64
            have lb : (partOf S' rs.reverse i).length ≤ 64 := Nat.le_trans (partOf_len _ _ _) (by simpa using hn64)
            obtain ⟨pa, ca, hca, hra⟩ := HJa3.out.shard hi (by omega)
            obtain ⟨pb, cb, hcb, hrb⟩ := HJb.out.shard hi (by omega)
            have hGa : wa.heap.size < w3.heap.size := by obtain ⟨_, _, hg, _⟩ := HJa3.out; exact (Array.getElem?_eq_some_iff.1 hg).1
            have hGb : wb.heap.size < w3.heap.size := by obtain ⟨_, _, hg, _⟩ := HJb.out; exact (Array.getElem?_eq_some_iff.1 hg).1
            have CB : Hid (∀ p : LaterS wr.heap.size wr, Calls Tryd.prog 24 #[.slice pa (partOf S' rs i).length ca, .slice pb (partOf S' rs.reverse i).length cb] p.w fun e w' => e = .returned (.bool true) ∧ Below p.w.heap.size p.w w') := fun q => by
              have hq := HBi.out.trans (q.h.mono HBi.out.size)
              exact sameBag_is _ _ (partOf S' rs i) (partOf S' rs.reverse i) q.w (hra.below hq) (hrb.below hq) (by omega) true (by simpa using part_rev S' rs i)
            obtain ⟨La, hLa⟩ : ∃ La, (partOf S' rs i).length = La := ⟨_, rfl⟩
            obtain ⟨Lb, hLb⟩ : ∃ Lb, (partOf S' rs.reverse i).length = Lb := ⟨_, rfl⟩
            rw [hLa] at hca CB
            rw [hLb] at hcb CB
            have pxa : ∀ q : LaterS wr.heap.size wr, q.w.cell? ⟨wa.heap.size, i, none⟩ = some (.slice pa La ca) := fun q => by
              rw [q.h.cell (p := ⟨wa.heap.size, _, none⟩) (Nat.lt_of_lt_of_le hGa HBi.out.size), HBi.out.cell (p := ⟨wa.heap.size, _, none⟩) hGa]; exact hca
            have pxb : ∀ q : LaterS wr.heap.size wr, q.w.cell? ⟨wb.heap.size, i, none⟩ = some (.slice pb Lb cb) := fun q => by
              rw [q.h.cell (p := ⟨wb.heap.size, _, none⟩) (Nat.lt_of_lt_of_le hGb HBi.out.size), HBi.out.cell (p := ⟨wb.heap.size, _, none⟩) hGb]; exact hcb
            have hz0 : (0 : Int) ≤ (i : Int) := by omega
            have hz1 : (i : Int) < (S' : Int) := by omega
            clear hra hrb hca hcb hLa hLb la lb
            go_wp2_with fail
            have inhL := laterInh
            refine wp_region_laterS mixedOnS (by kernel_rfl) ?_
            repeat (go_big_quiet_step ((go_at_call 24; exact calls_laterS (CB.out _))))
            refine wpQuiet_nil ?_
            intro w4 hw'
            obtain ⟨⟨wq, hwq⟩, hw''⟩ := hw'
            subst hw''
            have HB4 : Hid (Below w3.heap.size w3 w4) := HBi.out.trans (hwq.mono HBi.out.size)
            clear hwq pxa pxb
            go_wp2_with fail
            go_roundg g'
            case measure => omega
            case rel => exact ⟨i + 1, by go_num, by omega, by omega, HB4⟩
          · have hz1 : ¬ (i : Int) < (S' : Int) := by omega
            have HB5 : Hid (Below w.heap.size w wr) := HB3.out.trans (HBi.out.mono HB3.out.size)
            clear HJa3 HJb
            go_wp2_with fail
            go_ret
            exact ⟨rfl, HB5.out⟩
      · have he' : splitE N S R nm cs rs.reverse ≠ 0 := fun h => he ((splitE_rev _ _ _ _ _ _).1 h)
        have C1 : Hid (Calls Tryd.prog 13 #[.agg #[.int .i64 N, .int .i64 S, .int .i64 R], .agg #[.string nm, .slice pc mc cc, .slice pr rs.length cr]] wr fun e w' => e = .returned (.tuple #[.slice none 0 0, .int .i64 (splitE N S R nm cs rs)]) ∧ Below wr.heap.size wr w') := split_bad N S R nm pc mc cc cs pr cr rs wr hs (Utf8Tabs_below HT.out HWr.out) (HC.out.below HWr.out) (HR.out.below HWr.out) he
        have C2 : Hid (∀ W, Below wr.heap.size wr W → Calls Tryd.prog 13 #[.agg #[.int .i64 N, .int .i64 S, .int .i64 R], .agg #[.string nm, .slice pc mc cc, .slice p rs.length c]] W fun e w' => e = .returned (.tuple #[.slice none 0 0, .int .i64 (splitE N S R nm cs rs.reverse)]) ∧ Below W.heap.size W w') := fun W h => by
          have hw : Below w.heap.size w W := HWr.out.trans (h.mono HWr.out.size)
          have := split_bad N S R nm pc mc cc cs p c rs.reverse W hs (Utf8Tabs_below HT.out hw) (HC.out.below hw) (HRv.out.below h) he'
          rwa [hrl] at this
        obtain ⟨E1, hE1⟩ : ∃ E, splitE N S R nm cs rs = E := ⟨_, rfl⟩
        obtain ⟨E2, hE2⟩ : ∃ E, splitE N S R nm cs rs.reverse = E := ⟨_, rfl⟩
        rw [hE1] at C1 he
        rw [hE2] at C2 he'
        have q1 : (E1 == 0) = false := beq_eq_false_iff_ne.2 he
        have q2 : (E2 == 0) = false := beq_eq_false_iff_ne.2 he'
        obtain ⟨T, hT⟩ : ∃ T, (E1 != E2) = T := ⟨_, rfl⟩
        clear he he' hE1 hE2 hrl
        go_wp2_with fail
        refine C1.out.mono ?_
        rintro e w2 ⟨rfl, hb2⟩
        have HB2 : Hid (Below wr.heap.size wr w2) := hb2
        have d0 : w2.cell? ⟨w1.heap.size, 0, none⟩ = some (.string nm) := by rw [hb2.cell (p := ⟨w1.heap.size, _, none⟩) hlt]; exact b0
        have d1 : w2.cell? ⟨w1.heap.size, 1, none⟩ = some (.slice pc mc cc) := by rw [hb2.cell (p := ⟨w1.heap.size, _, none⟩) hlt]; exact b1
        have d2 : w2.cell? ⟨w1.heap.size, 2, none⟩ = some (.slice p rs.length c) := by rw [hb2.cell (p := ⟨w1.heap.size, _, none⟩) hlt]; exact b2
        have f0 : w2.cell? ⟨w.heap.size, 0, none⟩ = some (.int .i64 N) := by rw [hb2.cell (p := ⟨w.heap.size, _, none⟩) (by show w.heap.size < _; omega)]; exact l0
        have f1 : w2.cell? ⟨w.heap.size, 1, none⟩ = some (.int .i64 S) := by rw [hb2.cell (p := ⟨w.heap.size, _, none⟩) (by show w.heap.size < _; omega)]; exact l1
        have f2 : w2.cell? ⟨w.heap.size, 2, none⟩ = some (.int .i64 R) := by rw [hb2.cell (p := ⟨w.heap.size, _, none⟩) (by show w.heap.size < _; omega)]; exact l2
        clear hb2 C1 b0 b1 b2 t0 t1 t2 l0 l1 l2
        go_wp2_with fail
        refine (C2.out _ HB2.out).mono ?_
        rintro e w3 ⟨rfl, hb3⟩
        have HB3 : Hid (Below w.heap.size w w3) := by
          have h2 := HWr.out.trans (HB2.out.mono HWr.out.size)
          exact h2.trans (hb3.mono h2.size)
        clear hb3 d0 d1 d2 f0 f1 f2 C2
        cases T
        · go_wp2_with fail
          refine wp_loop_rounds 1 ?_
          rw [rounds_succ]
          go_wp2_with fail
          go_ret
          exact ⟨rfl, HB3.out⟩
        · go_wp2_with fail
          refine wp_loop_rounds 1 ?_
          rw [rounds_succ]
          go_wp2_with fail
          go_ret
          exact ⟨rfl, HB3.out⟩
end Go.Proofs.YthfoijnjgdeaaaaDoor
