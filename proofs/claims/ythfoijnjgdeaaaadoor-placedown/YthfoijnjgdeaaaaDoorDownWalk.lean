/- The law PlaceDown returns true. -/
import Derived.Test.YthfoijnjgdeaaaaDoorCiCj
namespace Go.Proofs.YthfoijnjgdeaaaaDoor
open Go.Shelf Go.RowKit Go.Lib Go.Sort
set_option linter.unusedVariables false
set_option linter.unusedSimpArgs false
attribute [local go_sem ↓] Go.wp_at_zero Go.wp_at_succ
set_option maxRecDepth 100000 in
set_option maxHeartbeats 2000000 in
theorem down_core (N S R : Int) (nm : ByteArray) (pc : Option Addr) (mc cc : Nat) (cs : List Col) (vb vl : Int) (vo : Value) (os : List (List Int)) (va : Value) (al : List Bool) (nn : Int) (w : World) (hs : nm.size ≤ 9223372036854775807) (hT : Lib.Utf8Tabs 0 1 w) (hc : ColA w (.slice pc mc cc) cs) (ho : OwnsL w vo os) (ha : BoolsL w va al) (hal : al.length ≤ 140737488351232) :
    Calls Tryd.prog 8 #[.agg #[.int .i64 N, .int .i64 S, .int .i64 R], .agg #[.string nm, .slice pc mc cc, .int .u64 vb, .int .u64 vl, vo], va, .int .i64 nn] w fun e w' => e = .returned (.bool true) ∧ Below w.heap.size w w' := by
  have CP : Hid (∀ (va' : Value) (bl : List Bool) (E : Int) (zs : List Int) W, pkE N S R nm cs os bl = E → zsP N S R nm cs os bl = zs → Below w.heap.size w W → BoolsL W va' bl → Calls Tryd.prog 20 #[.agg #[.int .i64 N, .int .i64 S, .int .i64 R], .agg #[.string nm, .slice pc mc cc, .int .u64 vb, .int .u64 vl, vo], va'] W fun e w' => ∃ u, e = .returned (.tuple #[u, .int .i64 E]) ∧ IntsL w' u zs ∧ Below W.heap.size W w') := fun va' bl E zs W h1 h2 h h3 => by
    subst h1 h2
    exact pick_any N S R nm pc mc cc cs vb vl vo os va' bl W hs (Utf8Tabs_below hT h) (hc.below h) (ho.below h) h3
  obtain ⟨po, co, rfl, _, _⟩ := ho
  have HAl : Hid (BoolsL w va al) := ha
  obtain ⟨pa, ca, rfl, hl63, hpa⟩ := ha
  have HPA : Hid (0 < al.length → ∃ b o, pa = some ⟨b, o, none⟩ ∧ b < w.heap.size ∧ ∀ j (h : j < al.length), w.cell? ⟨b, o + j, none⟩ = some (.bool al[j])) := hpa
  clear hs hT hc hpa
  go_enter Tryd.func8, Tryd.ntmps8
  go_wp2_with fail
  refine (layLives_any _).mono ?_
  rintro e w1 ⟨rfl, hb1⟩
  have HX1 : Hid (BoxC w w1 N S R nm (.slice pc mc cc) vb vl (.slice po os.length co)) := (BoxC.start w N S R nm _ vb vl _).below hb1
  clear hb1
  obtain ⟨g, cap, w2, hrun, hown, hb2⟩ := bools_new w1 (.slice pa al.length ca) al (HAl.out.below HX1.out.1) hal
  obtain ⟨cur, hg, hgb, hcs, hcur⟩ := own_bools hown
  have hglt : g < w2.heap.size := (Array.getElem?_eq_some_iff.1 hg).1
  have HX2 : Hid (BoxC w w2 N S R nm (.slice pc mc cc) vb vl (.slice po os.length co)) := HX1.out.below hb2
  have E1 : Hid _ := hrun
  obtain ⟨P1, hP1⟩ : ∃ E, pkE N S R nm cs os al = E := ⟨_, rfl⟩
  obtain ⟨zs, hzs⟩ : ∃ zs, zsP N S R nm cs os al = zs := ⟨_, rfl⟩
  have HZ : Hid (∀ z ∈ zs, ∃ y : Nat, z = (y : Int) ∧ 1 ≤ y ∧ ∃ h : y < al.length, al[y] = true) := by rw [← hzs]; exact zsP_ok
  obtain ⟨P3, hP3⟩ : ∃ E, pkE N S R nm cs os [] = E := ⟨_, rfl⟩
  have hP3n : (P3 != 0) = true := bne_iff_ne.2 (by rw [← hP3]; exact pkE_nil _ _ _ _ _ _)
  obtain ⟨z3, hz3⟩ : ∃ zs, zsP N S R nm cs os [] = zs := ⟨_, rfl⟩
  have TAIL : ∀ (W3 : World) (bl : List Bool), bl.length = al.length → (∀ k, al.getD k false = true → bl.getD k false = true) → BoxC w W3 N S R nm (.slice pc mc cc) vb vl (.slice po os.length co) → BoolsL W3 (.slice (some ⟨g, 0, none⟩) al.length cap) bl → ∃ P2 z2, pkE N S R nm cs os bl = P2 ∧ zsP N S R nm cs os bl = z2 ∧ (P1 = 0 → P2 = 0) := fun W3 bl h1 h2 h3 h4 => ⟨_, _, rfl, rfl, fun h => pkE_mono h2 (hP1.trans h)⟩
  by_cases hn : 0 ≤ nn ∧ nn < (al.length : Int)
  · obtain ⟨y, rfl⟩ : ∃ y : Nat, nn = (y : Int) := ⟨nn.toNat, by omega⟩
    have hy : y < al.length := by omega
    have n0 : (0 : Int) ≤ (y : Int) := hn.1
    have n1 : (y : Int) < (al.length : Int) := hn.2
    have f0 : w2.cell? ⟨g, y, none⟩ = some (.bool al[y]) := by simp [World.cell?, hg, hcur y hy]
    have f1 : w2.frozen? ⟨g, y, none⟩ = false := frozen_zero hg y
    have hs3 := heap_setCell_same w2 g y cur 4 (.bool true) hg
    have hb3 : Below w1.heap.size w1 (w2.setCell ⟨g, y, none⟩ (.bool true)) := ⟨hb2.os, hb2.tape, hb2.output, by simp [World.setCell]; exact hb2.size, fun k hk => by rw [heap_setCell_other _ ⟨g, y, none⟩ k _ (by show k ≠ g; omega)]; exact hb2.block k hk⟩
    have HB3 : Hid (BoolsL (w2.setCell ⟨g, y, none⟩ (.bool true)) (.slice (some ⟨g, 0, none⟩) al.length cap) (al.set y true)) := by
      refine ⟨_, cap, by rw [List.length_set], by rw [List.length_set]; exact hl63, fun _ => ⟨g, 0, rfl, (Array.getElem?_eq_some_iff.1 hs3).1, fun j hj => ?_⟩⟩
      rw [Nat.zero_add]
      simp only [World.cell?, hs3]
      rw [List.length_set] at hj
      by_cases e : y = j
      · subst e
        rw [Array.getElem?_setIfInBounds_self_of_lt (by omega)]; simp
      · rw [Array.getElem?_setIfInBounds_ne e, hcur j hj]; simp [List.getElem_set, e]
    have HX3 : Hid (BoxC w (w2.setCell ⟨g, y, none⟩ (.bool true)) N S R nm (.slice pc mc cc) vb vl (.slice po os.length co)) := HX1.out.below hb3
    obtain ⟨P2, z2, hP2, hz2, hmono⟩ := TAIL _ _ (by simp) (set_mono al y) HX3.out HB3.out
    clear TAIL hcur hs3 hb3 hb2 hown hrun hg hn
    obtain ⟨_, _, ⟨x10, x11, x12⟩, x13, x14, x15, x16, x17⟩ := HX3.out
    go_wp2_with (at_builtin; refine wpList_append_run _ rfl _ _ 50 50 rfl _ _ _ _ rfl rfl E1.out ?_)
    generalize w2.setCell ⟨g, y, none⟩ (.bool true) = W3 at *
    refine (CP.out _ al P1 zs _ hP1 hzs HX3.out.1 (HAl.out.below HX3.out.1)).mono ?_
    rintro e w4 ⟨u4, rfl, hI4, hb4⟩
    have HX4 : Hid (BoxC w w4 N S R nm (.slice pc mc cc) vb vl (.slice po os.length co)) := HX3.out.below hb4
    have HI4 : Hid (IntsL w4 u4 zs) := hI4
    have HB4 := HB3.out.below hb4
    clear x10 x11 x12 x13 x14 x15 x16 x17 hI4 hb4
    obtain ⟨_, _, ⟨x10, x11, x12⟩, x13, x14, x15, x16, x17⟩ := HX4.out
    go_wp2_with fail
    refine (CP.out _ _ P2 z2 _ hP2 hz2 HX4.out.1 HB4).mono ?_
    rintro e w5 ⟨u5, rfl, hI5, hb5⟩
    have HX5 : Hid (BoxC w w5 N S R nm (.slice pc mc cc) vb vl (.slice po os.length co)) := HX4.out.below hb5
    have HI5 : Hid (IntsL w5 u4 zs) := HI4.out.below hb5
    clear x10 x11 x12 x13 x14 x15 x16 x17 hI5 hb5 HI4 HB4
    obtain ⟨pp, cp, rfl, hzl, hpp⟩ := HI5.out
    have HPP : Hid (0 < zs.length → ∃ b o, pp = some ⟨b, o, none⟩ ∧ b < w5.heap.size ∧ ∀ j (h : j < zs.length), w5.cell? ⟨b, o + j, none⟩ = some (.int .i64 zs[j])) := hpp
    clear hpp
    have hq : (P1 == 0) = false ∨ ((P1 == 0) = true ∧ (P2 != 0) = false) := by
      by_cases h : P1 = 0
      · exact .inr ⟨beq_iff_eq.2 h, by rw [hmono h]; rfl⟩
      · exact .inl (beq_eq_false_iff_ne.2 h)
    clear hmono hP1 hP2 hzs hz2
    rcases hq with hq | ⟨hq, hq2⟩
    all_goals
      go_wp2_with fail
      go_loopg [56] zs.length (fun gf s56 wx => ∃ i : Nat, s56 = .int .i64 i ∧ i ≤ zs.length ∧ zs.length ≤ i + gf ∧ wx = w5)
      case atStart => exact ⟨0, rfl, by omega, by omega, rfl⟩
      case round =>
        obtain ⟨i, rfl, hi1, hgf, hwx⟩ := hrel
        subst hwx
        by_cases hi : i < zs.length
        · obtain ⟨g', rfl⟩ : ∃ g', gk = g' + 1 := ⟨gk - 1, by omega⟩
          obtain ⟨b, o, rfl, hB, hcc⟩ := HPP.out (by omega)
          have c0 := hcc i hi
          obtain ⟨yy, ey, ey1, ey2, ey3⟩ := HZ.out _ (List.getElem_mem hi)
          rw [ey] at c0
          obtain ⟨b2, o2, rfl, hB2, hc2⟩ := HPA.out (by omega)
          have d0 := hc2 yy ey2
          rw [ey3, ← HX5.out.1.cell (p := ⟨b2, _, none⟩) hB2] at d0
          have z0 : (0 : Int) ≤ (i : Int) := by omega
          have z1 : (i : Int) < (zs.length : Int) := by omega
          have z2' : ¬ (yy : Int) < 1 := by omega
          have z3' : ¬ (al.length : Int) ≤ (yy : Int) := by omega
          have z4 : (0 : Int) ≤ (yy : Int) := by omega
          have z5 : (yy : Int) < (al.length : Int) := by omega
          clear hcc hc2 ey ey3
          go_wp2_with fail
          go_roundg g'
          case measure => omega
          case rel => exact ⟨i + 1, by go_num, by omega, by omega, rfl⟩
        · have z1 : ¬ (i : Int) < (zs.length : Int) := by omega
          obtain ⟨_, _, ⟨x10, x11, x12⟩, x13, x14, x15, x16, x17⟩ := HX5.out
          go_wp2_with fail
          refine (CP.out (.slice none 0 0) [] P3 z3 _ hP3 hz3 HX5.out.1 ⟨none, 0, rfl, by simp, fun h => by simp at h⟩).mono ?_
          rintro e w6 ⟨u6, rfl, hI6, hb6⟩
          have HW : Hid (Below w.heap.size w w6) := HX5.out.1.trans (hb6.mono HX5.out.1.size)
          clear hI6 hb6
          go_wp2_with fail
          go_ret
          exact ⟨rfl, HW.out⟩
  · have n2 : ¬ (0 ≤ nn) ∨ ¬ (nn < (al.length : Int)) := by omega
    have HB3 : Hid (BoolsL w2 (.slice (some ⟨g, 0, none⟩) al.length cap) al) := ⟨_, cap, rfl, hl63, fun _ => ⟨g, 0, rfl, hglt, fun j hj => by rw [Nat.zero_add]; simp [World.cell?, hg, hcur j hj]⟩⟩
    have HX3 : Hid (BoxC w w2 N S R nm (.slice pc mc cc) vb vl (.slice po os.length co)) := HX2.out
    obtain ⟨P2, z2, hP2, hz2, hmono⟩ := TAIL _ _ rfl (fun _ h => h) HX3.out HB3.out
    clear TAIL hcur hb2 hown hrun hg hn
    obtain ⟨_, _, ⟨x10, x11, x12⟩, x13, x14, x15, x16, x17⟩ := HX3.out
    have hW3 : ∃ W3, W3 = w2 := ⟨_, rfl⟩
    rcases n2 with n2 | n2
    · go_wp2_with (at_builtin; refine wpList_append_run _ rfl _ _ 50 50 rfl _ _ _ _ rfl rfl E1.out ?_)
      generalize w2 = W3 at *
      refine (CP.out _ al P1 zs _ hP1 hzs HX3.out.1 (HAl.out.below HX3.out.1)).mono ?_
      rintro e w4 ⟨u4, rfl, hI4, hb4⟩
      have HX4 : Hid (BoxC w w4 N S R nm (.slice pc mc cc) vb vl (.slice po os.length co)) := HX3.out.below hb4
      have HI4 : Hid (IntsL w4 u4 zs) := hI4
      have HB4 := HB3.out.below hb4
      clear x10 x11 x12 x13 x14 x15 x16 x17 hI4 hb4
      obtain ⟨_, _, ⟨x10, x11, x12⟩, x13, x14, x15, x16, x17⟩ := HX4.out
      go_wp2_with fail
      refine (CP.out _ _ P2 z2 _ hP2 hz2 HX4.out.1 HB4).mono ?_
      rintro e w5 ⟨u5, rfl, hI5, hb5⟩
      have HX5 : Hid (BoxC w w5 N S R nm (.slice pc mc cc) vb vl (.slice po os.length co)) := HX4.out.below hb5
      have HI5 : Hid (IntsL w5 u4 zs) := HI4.out.below hb5
      clear x10 x11 x12 x13 x14 x15 x16 x17 hI5 hb5 HI4 HB4
      obtain ⟨pp, cp, rfl, hzl, hpp⟩ := HI5.out
      have HPP : Hid (0 < zs.length → ∃ b o, pp = some ⟨b, o, none⟩ ∧ b < w5.heap.size ∧ ∀ j (h : j < zs.length), w5.cell? ⟨b, o + j, none⟩ = some (.int .i64 zs[j])) := hpp
      clear hpp
      have hq : (P1 == 0) = false ∨ ((P1 == 0) = true ∧ (P2 != 0) = false) := by
        by_cases h : P1 = 0
        · exact .inr ⟨beq_iff_eq.2 h, by rw [hmono h]; rfl⟩
        · exact .inl (beq_eq_false_iff_ne.2 h)
      clear hmono hP1 hP2 hzs hz2
      rcases hq with hq | ⟨hq, hq2⟩
      all_goals
        go_wp2_with fail
        go_loopg [56] zs.length (fun gf s56 wx => ∃ i : Nat, s56 = .int .i64 i ∧ i ≤ zs.length ∧ zs.length ≤ i + gf ∧ wx = w5)
        case atStart => exact ⟨0, rfl, by omega, by omega, rfl⟩
        case round =>
          obtain ⟨i, rfl, hi1, hgf, hwx⟩ := hrel
          subst hwx
          by_cases hi : i < zs.length
          · obtain ⟨g', rfl⟩ : ∃ g', gk = g' + 1 := ⟨gk - 1, by omega⟩
            obtain ⟨b, o, rfl, hB, hcc⟩ := HPP.out (by omega)
            have c0 := hcc i hi
            obtain ⟨yy, ey, ey1, ey2, ey3⟩ := HZ.out _ (List.getElem_mem hi)
            rw [ey] at c0
            obtain ⟨b2, o2, rfl, hB2, hc2⟩ := HPA.out (by omega)
            have d0 := hc2 yy ey2
            rw [ey3, ← HX5.out.1.cell (p := ⟨b2, _, none⟩) hB2] at d0
            have z0 : (0 : Int) ≤ (i : Int) := by omega
            have z1 : (i : Int) < (zs.length : Int) := by omega
            have z2' : ¬ (yy : Int) < 1 := by omega
            have z3' : ¬ (al.length : Int) ≤ (yy : Int) := by omega
            have z4 : (0 : Int) ≤ (yy : Int) := by omega
            have z5 : (yy : Int) < (al.length : Int) := by omega
            clear hcc hc2 ey ey3
            go_wp2_with fail
            go_roundg g'
            case measure => omega
            case rel => exact ⟨i + 1, by go_num, by omega, by omega, rfl⟩
          · have z1 : ¬ (i : Int) < (zs.length : Int) := by omega
            obtain ⟨_, _, ⟨x10, x11, x12⟩, x13, x14, x15, x16, x17⟩ := HX5.out
            go_wp2_with fail
            refine (CP.out (.slice none 0 0) [] P3 z3 _ hP3 hz3 HX5.out.1 ⟨none, 0, rfl, by simp, fun h => by simp at h⟩).mono ?_
            rintro e w6 ⟨u6, rfl, hI6, hb6⟩
            have HW : Hid (Below w.heap.size w w6) := HX5.out.1.trans (hb6.mono HX5.out.1.size)
            clear hI6 hb6
            go_wp2_with fail
            go_ret
            exact ⟨rfl, HW.out⟩
    · by_cases n3 : 0 ≤ nn
      · go_wp2_with (at_builtin; refine wpList_append_run _ rfl _ _ 50 50 rfl _ _ _ _ rfl rfl E1.out ?_)
        generalize w2 = W3 at *
        refine (CP.out _ al P1 zs _ hP1 hzs HX3.out.1 (HAl.out.below HX3.out.1)).mono ?_
        rintro e w4 ⟨u4, rfl, hI4, hb4⟩
        have HX4 : Hid (BoxC w w4 N S R nm (.slice pc mc cc) vb vl (.slice po os.length co)) := HX3.out.below hb4
        have HI4 : Hid (IntsL w4 u4 zs) := hI4
        have HB4 := HB3.out.below hb4
        clear x10 x11 x12 x13 x14 x15 x16 x17 hI4 hb4
        obtain ⟨_, _, ⟨x10, x11, x12⟩, x13, x14, x15, x16, x17⟩ := HX4.out
        go_wp2_with fail
        refine (CP.out _ _ P2 z2 _ hP2 hz2 HX4.out.1 HB4).mono ?_
        rintro e w5 ⟨u5, rfl, hI5, hb5⟩
        have HX5 : Hid (BoxC w w5 N S R nm (.slice pc mc cc) vb vl (.slice po os.length co)) := HX4.out.below hb5
        have HI5 : Hid (IntsL w5 u4 zs) := HI4.out.below hb5
        clear x10 x11 x12 x13 x14 x15 x16 x17 hI5 hb5 HI4 HB4
        obtain ⟨pp, cp, rfl, hzl, hpp⟩ := HI5.out
        have HPP : Hid (0 < zs.length → ∃ b o, pp = some ⟨b, o, none⟩ ∧ b < w5.heap.size ∧ ∀ j (h : j < zs.length), w5.cell? ⟨b, o + j, none⟩ = some (.int .i64 zs[j])) := hpp
        clear hpp
        have hq : (P1 == 0) = false ∨ ((P1 == 0) = true ∧ (P2 != 0) = false) := by
          by_cases h : P1 = 0
          · exact .inr ⟨beq_iff_eq.2 h, by rw [hmono h]; rfl⟩
          · exact .inl (beq_eq_false_iff_ne.2 h)
        clear hmono hP1 hP2 hzs hz2
        rcases hq with hq | ⟨hq, hq2⟩
        all_goals
          go_wp2_with fail
          go_loopg [56] zs.length (fun gf s56 wx => ∃ i : Nat, s56 = .int .i64 i ∧ i ≤ zs.length ∧ zs.length ≤ i + gf ∧ wx = w5)
          case atStart => exact ⟨0, rfl, by omega, by omega, rfl⟩
          case round =>
            obtain ⟨i, rfl, hi1, hgf, hwx⟩ := hrel
            subst hwx
            by_cases hi : i < zs.length
            · obtain ⟨g', rfl⟩ : ∃ g', gk = g' + 1 := ⟨gk - 1, by omega⟩
              obtain ⟨b, o, rfl, hB, hcc⟩ := HPP.out (by omega)
              have c0 := hcc i hi
              obtain ⟨yy, ey, ey1, ey2, ey3⟩ := HZ.out _ (List.getElem_mem hi)
              rw [ey] at c0
              obtain ⟨b2, o2, rfl, hB2, hc2⟩ := HPA.out (by omega)
              have d0 := hc2 yy ey2
              rw [ey3, ← HX5.out.1.cell (p := ⟨b2, _, none⟩) hB2] at d0
              have z0 : (0 : Int) ≤ (i : Int) := by omega
              have z1 : (i : Int) < (zs.length : Int) := by omega
              have z2' : ¬ (yy : Int) < 1 := by omega
              have z3' : ¬ (al.length : Int) ≤ (yy : Int) := by omega
              have z4 : (0 : Int) ≤ (yy : Int) := by omega
              have z5 : (yy : Int) < (al.length : Int) := by omega
              clear hcc hc2 ey ey3
              go_wp2_with fail
              go_roundg g'
              case measure => omega
              case rel => exact ⟨i + 1, by go_num, by omega, by omega, rfl⟩
            · have z1 : ¬ (i : Int) < (zs.length : Int) := by omega
              obtain ⟨_, _, ⟨x10, x11, x12⟩, x13, x14, x15, x16, x17⟩ := HX5.out
              go_wp2_with fail
              refine (CP.out (.slice none 0 0) [] P3 z3 _ hP3 hz3 HX5.out.1 ⟨none, 0, rfl, by simp, fun h => by simp at h⟩).mono ?_
              rintro e w6 ⟨u6, rfl, hI6, hb6⟩
              have HW : Hid (Below w.heap.size w w6) := HX5.out.1.trans (hb6.mono HX5.out.1.size)
              clear hI6 hb6
              go_wp2_with fail
              go_ret
              exact ⟨rfl, HW.out⟩
      · omega
end Go.Proofs.YthfoijnjgdeaaaaDoor
