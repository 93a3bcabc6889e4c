/- The law PlaceOwners returns true. -/
import Derived.Test.YthfoijnjgdeaaaaDoorCiCk
import Derived.Test.YthfoijnjgdeaaaaDoorClaimsWalk
namespace Go.Proofs.YthfoijnjgdeaaaaDoor
open Go.Shelf Go.RowKit Go.Lib Go.Sort
set_option linter.unusedVariables false
set_option linter.unusedSimpArgs false
attribute [local go_sem ↓] Go.wp_at_zero Go.wp_at_succ
set_option maxRecDepth 100000 in
set_option maxHeartbeats 2000000 in
theorem owns_core (N S R sh : Int) (nm : ByteArray) (pc : Option Addr) (mc cc : Nat) (cs : List Col) (vb vl : Int) (vo : Value) (os : List (List Int)) (va : Value) (al : List Bool) (w : World) (hs : nm.size ≤ 9223372036854775807) (hT : Lib.Utf8Tabs 0 1 w) (hc : ColA w (.slice pc mc cc) cs) (ho : OwnsL w vo os) (ha : BoolsL w va al) :
    Calls Tryd.prog 6 #[.agg #[.int .i64 N, .int .i64 S, .int .i64 R], .int .i64 sh, .agg #[.string nm, .slice pc mc cc, .int .u64 vb, .int .u64 vl, vo], va] w fun e w' => e = .returned (.bool true) ∧ Below w.heap.size w w' := by
  obtain ⟨P1, hP1⟩ : ∃ E, pkE N S R nm cs os al = E := ⟨_, rfl⟩
  obtain ⟨zs, hzs⟩ : ∃ zs, zsP N S R nm cs os al = zs := ⟨_, rfl⟩
  obtain ⟨O1, hO1⟩ : ∃ E, ownE N S R sh = E := ⟨_, rfl⟩
  obtain ⟨ys, hys⟩ : ∃ ys, zsO N S R sh = ys := ⟨_, rfl⟩
  have CO : Hid (∀ W, Calls Tryd.prog 9 #[.agg #[.int .i64 N, .int .i64 S, .int .i64 R], .int .i64 sh] W fun e w' => ∃ u, e = .returned (.tuple #[u, .int .i64 O1]) ∧ IntsL w' u ys ∧ Below W.heap.size W w') := fun W => by rw [← hO1, ← hys]; exact ownersAll_any N S R sh W
  have CP : Hid (∀ W, Below w.heap.size w W → Calls Tryd.prog 20 #[.agg #[.int .i64 N, .int .i64 S, .int .i64 R], .agg #[.string nm, .slice pc mc cc, .int .u64 vb, .int .u64 vl, vo], va] W fun e w' => ∃ u, e = .returned (.tuple #[u, .int .i64 P1]) ∧ IntsL w' u zs ∧ Below W.heap.size W w') := fun W h => by rw [← hP1, ← hzs]; exact pick_any N S R nm pc mc cc cs vb vl vo os va al W hs (Utf8Tabs_below hT h) (hc.below h) (ho.below h) (ha.below h)
  have HO : Hid (O1 = 0 → (ys.length : Int) = R ∧ (∀ z ∈ ys, 1 ≤ z ∧ z < N) ∧ ys.Pairwise (fun x y => x < y)) := fun h => by rw [← hys]; exact zsO_ok (hO1.trans h)
  have HP0 : Hid (P1 ≠ 0 → zs = []) := fun h => by rw [← hzs]; exact pkE_zero (by rw [hP1]; exact h)
  have HP1 : Hid (P1 = 0 → zs.length = os.length ∧ (os.length : Int) = S ∧ os.length ≤ 8 ∧ ∀ s (hs : s < os.length) (hz : s < zs.length), ∃ y : Nat, zs[s] = (y : Int) ∧ (∃ h : y < al.length, al[y] = true) ∧ (y : Int) ∈ os[s] ∧ 0 < (liveL al os[s]).length ∧ (∀ z ∈ os[s], 0 ≤ z) ∧ os[s].length ≤ 7) := fun h => by subst hzs; exact zsP_at (hP1.trans h)
  have CL : Hid (∀ W v zs', Below w.heap.size w W → IntsL W v zs' → (∀ z ∈ zs', 0 ≤ z) → zs'.length ≤ 7 → Calls Tryd.prog 25 #[v, va] W fun e w' => ∃ p c, e = .returned (.slice p (liveL al zs').length c) ∧ Below W.heap.size W w') := fun W v zs' h h1 h2 h3 => by
    refine (live_any v va zs' al W h1 (ha.below h) h2 (by omega)).mono ?_
    rintro e w' ⟨u, rfl, hI⟩
    obtain ⟨p, c, rfl, _, _⟩ := hI.ints (by have := liveL_len al zs'; omega)
    exact ⟨p, c, rfl, hI.2⟩
  have HOs : Hid (OwnsL w vo os) := ho
  have HAl : Hid (BoolsL w va al) := ha
  obtain ⟨po, co, rfl, hol, hpo⟩ := ho
  obtain ⟨pa, ca, rfl, hl63, hpa⟩ := ha
  have HPO : Hid (0 < os.length → ∃ b o, po = some ⟨b, o, none⟩ ∧ b < w.heap.size ∧ ∀ j (h : j < os.length), ∃ u, w.cell? ⟨b, o + j, none⟩ = some u ∧ IntsL w u os[j]) := hpo
  have HPA : Hid (0 < al.length → ∃ b o, pa = some ⟨b, o, none⟩ ∧ b < w.heap.size ∧ ∀ j (h : j < al.length), w.cell? ⟨b, o + j, none⟩ = some (.bool al[j])) := hpa
  clear hs hT hc hpo hpa hP1 hzs hO1 hys HOs
  go_enter Tryd.func6, Tryd.ntmps6
  go_wp2_with fail
  refine (layLives_any _).mono ?_
  rintro e w1 ⟨rfl, hb1⟩
  have HX1 : Hid (BoxC w w1 N S R nm (.slice pc mc cc) vb vl (.slice po os.length co)) := (BoxC.start w N S R nm _ vb vl _).below hb1
  clear hb1
  obtain ⟨_, _, ⟨x10, x11, x12⟩, x13, x14, x15, x16, x17⟩ := HX1.out
  go_wp2_with fail
  refine (CO.out _).mono ?_
  rintro e w2 ⟨u2, rfl, hI2, hb2⟩
  have HX2 : Hid (BoxC w w2 N S R nm (.slice pc mc cc) vb vl (.slice po os.length co)) := HX1.out.below hb2
  clear x10 x11 x12 x13 x14 x15 x16 x17 hb2
  obtain ⟨_, _, ⟨x10, x11, x12⟩, x13, x14, x15, x16, x17⟩ := HX2.out
  by_cases hO : O1 = 0
  · have f0 : (O1 == 0) = true := beq_iff_eq.2 hO
    obtain ⟨hR, hz, hpw⟩ := HO.out hO
    have HZ : Hid (∀ z ∈ ys, 1 ≤ z ∧ z < N) := hz
    have HW : Hid (ys.Pairwise (fun x y => x < y)) := hpw
    have f1 : ((ys.length : Int) != R) = false := by rw [hR]; simp
    obtain ⟨pp, cp, rfl, hyl, hpp⟩ := hI2
    have HPP : Hid (0 < ys.length → ∃ b o, pp = some ⟨b, o, none⟩ ∧ b < w2.heap.size ∧ ∀ j (h : j < ys.length), w2.cell? ⟨b, o + j, none⟩ = some (.int .i64 ys[j])) := hpp
    clear hO hR hz hpw hpp
    go_wp2_with fail
    go_loopg [36] ys.length (fun gf s36 wx => ∃ i : Nat, s36 = .int .i64 i ∧ i ≤ ys.length ∧ ys.length ≤ i + gf ∧ wx = w2)
    case atStart => exact ⟨0, rfl, by omega, by omega, rfl⟩
    case round =>
      obtain ⟨i, rfl, hi1, hgf, hwx⟩ := hrel
      subst hwx
      by_cases hi : i < ys.length
      · obtain ⟨g', rfl⟩ : ∃ g', gk = g' + 1 := ⟨gk - 1, by omega⟩
        obtain ⟨b, o, rfl, hB, hcc⟩ := HPP.out (by omega)
        have c0 := hcc i hi
        obtain ⟨q1, q2⟩ := HZ.out _ (List.getElem_mem hi)
        have z0 : (0 : Int) ≤ (i : Int) := by omega
        have z1 : (i : Int) < (ys.length : Int) := by omega
        have z2 : ¬ ys[i] < 1 := by omega
        have z3 : ¬ N ≤ ys[i] := by omega
        by_cases h0 : i = 0
        · have z4 : ¬ (0 : Int) < (i : Int) := by omega
          clear hcc q1 q2 h0
          go_wp2_with fail
          go_roundg g'
          case measure => omega
          case rel => exact ⟨i + 1, by go_num, by omega, by omega, rfl⟩
        · obtain ⟨k, rfl⟩ : ∃ k, i = k + 1 := ⟨i - 1, by omega⟩
          have c1 := hcc k (by omega)
          have hlt : ys[k] < ys[k + 1] := (List.pairwise_iff_getElem.1 HW.out) k (k + 1) (by omega) hi (by omega)
          have z4 : (0 : Int) < ((k + 1 : Nat) : Int) := by omega
          have z5 : ¬ ys[k + 1] ≤ ys[k] := by omega
          have z6 : (((k + 1 : Nat) : Int) - 1) = (k : Int) := by omega
          have z7 : (0 : Int) ≤ (k : Int) := by omega
          have z8 : (k : Int) < (ys.length : Int) := by omega
          clear hcc q1 q2 hlt
          go_wp2_with fail
          go_roundg g'
          case measure => omega
          case rel => exact ⟨k + 1 + 1, by go_num, by omega, by omega, rfl⟩
      · have z1 : ¬ (i : Int) < (ys.length : Int) := by omega
        clear HPP HZ HW
        go_wp2_with fail
        refine (CP.out _ HX2.out.1).mono ?_
        rintro e w3 ⟨u3, rfl, hI3, hb3⟩
        have HX3 : Hid (BoxC w w3 N S R nm (.slice pc mc cc) vb vl (.slice po os.length co)) := HX2.out.below hb3
        clear x10 x11 x12 x13 x14 x15 x16 x17 hb3
        obtain ⟨pq, cq, rfl, hzl, hpq⟩ := hI3
        have HPQ : Hid (0 < zs.length → ∃ b o, pq = some ⟨b, o, none⟩ ∧ b < w3.heap.size ∧ ∀ j (h : j < zs.length), w3.cell? ⟨b, o + j, none⟩ = some (.int .i64 zs[j])) := hpq
        clear hpq
        by_cases hP : P1 = 0
        · have f0' : (P1 != 0) = false := by rw [hP]; rfl
          obtain ⟨e1, e2, e3, h4⟩ := HP1.out hP
          have H4 : Hid (∀ s (hs : s < os.length) (hz : s < zs.length), ∃ y : Nat, zs[s] = (y : Int) ∧ (∃ h : y < al.length, al[y] = true) ∧ (y : Int) ∈ os[s] ∧ 0 < (liveL al os[s]).length ∧ (∀ z ∈ os[s], 0 ≤ z) ∧ os[s].length ≤ 7) := h4
          have HE : Hid (zs.length = os.length ∧ (os.length : Int) = S) := ⟨e1, e2⟩
          clear hP e1 e2 e3 h4
          go_wp2_with fail
          go_loopg [77] zs.length (fun gf s56 wx => ∃ i : Nat, s56 = .int .i64 i ∧ i ≤ zs.length ∧ zs.length ≤ i + gf ∧ Hid (BoxC w wx N S R nm (.slice pc mc cc) vb vl (.slice po os.length co) ∧ Below w3.heap.size w3 wx))
          case atStart => exact ⟨0, rfl, by omega, by omega, ⟨HX3.out, Below.refl _ _⟩⟩
          case round =>
            obtain ⟨i, rfl, hi1, hgf, HI⟩ := hrel
            by_cases hi : i < zs.length
            · obtain ⟨g', rfl⟩ : ∃ g', gk = g' + 1 := ⟨gk - 1, by omega⟩
              have ios : i < os.length := by have := HE.out.1; omega
              obtain ⟨b, o, rfl, hB, hcc⟩ := HPQ.out (by omega)
              have c0 := hcc i hi
              obtain ⟨y, ey, ⟨ey2, ey3⟩, hmem, hlive, hnn, h7⟩ := H4.out i ios hi
              rw [ey, ← HI.out.2.cell (p := ⟨b, _, none⟩) hB] at c0
              obtain ⟨b2, o2, rfl, hB2, hc2⟩ := HPA.out (by omega)
              have d0 := hc2 y ey2
              rw [ey3, ← HI.out.1.1.cell (p := ⟨b2, _, none⟩) hB2] at d0
              obtain ⟨b3, o3, rfl, hB3, hc3⟩ := HPO.out (by omega)
              obtain ⟨u, hu, hIu⟩ := hc3 i ios
              rw [← HI.out.1.1.cell (p := ⟨b3, _, none⟩) hB3] at hu
              obtain ⟨xs, hxs⟩ : ∃ xs, os[i] = xs := ⟨_, rfl⟩
              rw [hxs] at hIu hmem hlive hnn h7
              have HIu : Hid (IntsL wr u xs) := hIu.below HI.out.1.1
              have HM : Hid ((y : Int) ∈ xs ∧ ∀ z ∈ xs, 0 ≤ z) := ⟨hmem, hnn⟩
              obtain ⟨L, hL⟩ : ∃ L, (liveL al xs).length = L := ⟨_, rfl⟩
              have CL1 : Hid (Calls Tryd.prog 25 #[u, .slice (some ⟨b2, o2, none⟩) al.length ca] wr fun e w' => ∃ p c, e = .returned (.slice p L c) ∧ Below wr.heap.size wr w') := by rw [← hL]; exact CL.out wr u xs HI.out.1.1 HIu.out HM.out.2 h7
              have f5 : ((L : Int) == 0) = false := beq_eq_false_iff_ne.2 (by omega)
              have z0 : (0 : Int) ≤ (i : Int) := by omega
              have z1 : (i : Int) < (zs.length : Int) := by omega
              have z1' : (i : Int) < (os.length : Int) := by omega
              have z3' : ¬ (al.length : Int) ≤ (y : Int) := by omega
              have z4 : (0 : Int) ≤ (y : Int) := by omega
              have z5 : (y : Int) < (al.length : Int) := by omega
              obtain ⟨px, cx, rfl, hxl, hpx⟩ := hIu
              have HPX : Hid (0 < xs.length → ∃ b o, px = some ⟨b, o, none⟩ ∧ b < w.heap.size ∧ ∀ j (h : j < xs.length), w.cell? ⟨b, o + j, none⟩ = some (.int .i64 xs[j])) := hpx
              clear hcc hc2 hc3 ey ey3 hxs hmem hnn hlive hL hpx ios
              obtain ⟨_, _, ⟨x10, x11, x12⟩, x13, x14, x15, x16, x17⟩ := HI.out.1
              go_wp2_with fail
              refine CL1.out.mono ?_
              rintro e w5 ⟨p5, c5, rfl, hb5⟩
              have HI5 : Hid (BoxC w w5 N S R nm (.slice pc mc cc) vb vl (.slice (some ⟨b3, o3, none⟩) os.length co) ∧ Below w3.heap.size w3 w5) := ⟨HI.out.1.below hb5, HI.out.2.trans (hb5.mono HI.out.2.size)⟩
              have hu5 := hu
              rw [← hb5.cell (p := ⟨b3, _, none⟩) (Nat.lt_of_lt_of_le hB3 HI.out.1.1.size)] at hu5
              clear x10 x11 x12 x13 x14 x15 x16 x17 hu c0 d0 hb5 HIu CL1 HI
              obtain ⟨_, _, ⟨x10, x11, x12⟩, x13, x14, x15, x16, x17⟩ := HI5.out.1
              go_wp2_with fail
              go_loopg [16, 110] xs.length (fun gf s16 s2 wx => ∃ (bb : Bool) (k : Nat), s16 = .bool bb ∧ s2 = .int .i64 k ∧ k ≤ xs.length ∧ xs.length ≤ k + gf ∧ wx = w5 ∧ Hid (bb = (xs.take k).any fun z => z == (y : Int)))
              case atStart => exact ⟨false, 0, rfl, rfl, by omega, by omega, rfl, by show _ = _; simp⟩
              case round =>
                obtain ⟨bb, k, rfl, rfl, hk1, hgf2, hwx, HBb⟩ := hrel
                subst hwx
                by_cases hk : k < xs.length
                · obtain ⟨g2, rfl⟩ : ∃ g2, gk = g2 + 1 := ⟨gk - 1, by omega⟩
                  obtain ⟨b6, o6, rfl, hB6, hc6⟩ := HPX.out (by omega)
                  have k0 := hc6 k hk
                  rw [← HI5.out.1.1.cell (p := ⟨b6, _, none⟩) hB6] at k0
                  have HS : Hid ((xs.take (k + 1)).any (fun z => z == (y : Int)) = ((xs.take k).any (fun z => z == (y : Int)) || (xs[k] == (y : Int)))) := by
                    show _ = _
                    rw [List.take_succ_eq_append_getElem hk, List.any_append]
                    simp
                  have t0 : (0 : Int) ≤ (k : Int) := by omega
                  have t1 : (k : Int) < (xs.length : Int) := by omega
                  obtain ⟨x, hx⟩ : ∃ x, xs[k] = x := ⟨_, rfl⟩
                  rw [hx] at k0
                  clear hc6
                  cases bb
                  all_goals
                    go_wp2_with fail
                    go_roundg g2
                    case measure => omega
                    case rel => exact ⟨_, k + 1, rfl, by go_num, by omega, by omega, rfl, by show _ = _; rw [HS.out, ← HBb.out, hx]; rfl⟩
                · have t1 : ¬ (k : Int) < (xs.length : Int) := by omega
                  have hbb : bb = true := by
                    rw [HBb.out, List.take_of_length_le (by omega), List.any_eq_true]
                    exact ⟨_, HM.out.1, by simp⟩
                  subst hbb
                  clear HBb
                  go_wp2_with fail
                  go_roundg g'
                  case measure => omega
                  case rel => exact ⟨i + 1, by go_num, by omega, by omega, HI5⟩
            · have z1 : ¬ (i : Int) < (zs.length : Int) := by omega
              have f9 : ((zs.length : Int) == S) = true := by rw [HE.out.1]; exact beq_iff_eq.2 HE.out.2
              obtain ⟨_, _, ⟨x10, x11, x12⟩, x13, x14, x15, x16, x17⟩ := HI.out.1
              go_wp2_with fail
              go_ret
              exact ⟨rfl, HI.out.1.1⟩
        · have f0' : (P1 != 0) = true := bne_iff_ne.2 hP
          have hz0 := HP0.out hP
          subst hz0
          clear hP
          go_wp2_with fail
          go_ret
          exact ⟨rfl, HX3.out.1⟩
  · have f0 : (O1 == 0) = false := beq_eq_false_iff_ne.2 hO
    clear hO hI2
    go_wp2_with fail
    refine (CP.out _ HX2.out.1).mono ?_
    rintro e w3 ⟨u3, rfl, hI3, hb3⟩
    have HX3 : Hid (BoxC w w3 N S R nm (.slice pc mc cc) vb vl (.slice po os.length co)) := HX2.out.below hb3
    clear x10 x11 x12 x13 x14 x15 x16 x17 hb3
    obtain ⟨pq, cq, rfl, hzl, hpq⟩ := hI3
    have HPQ : Hid (0 < zs.length → ∃ b o, pq = some ⟨b, o, none⟩ ∧ b < w3.heap.size ∧ ∀ j (h : j < zs.length), w3.cell? ⟨b, o + j, none⟩ = some (.int .i64 zs[j])) := hpq
    clear hpq
    by_cases hP : P1 = 0
    · have f0' : (P1 != 0) = false := by rw [hP]; rfl
      obtain ⟨e1, e2, e3, h4⟩ := HP1.out hP
      have H4 : Hid (∀ s (hs : s < os.length) (hz : s < zs.length), ∃ y : Nat, zs[s] = (y : Int) ∧ (∃ h : y < al.length, al[y] = true) ∧ (y : Int) ∈ os[s] ∧ 0 < (liveL al os[s]).length ∧ (∀ z ∈ os[s], 0 ≤ z) ∧ os[s].length ≤ 7) := h4
      have HE : Hid (zs.length = os.length ∧ (os.length : Int) = S) := ⟨e1, e2⟩
      clear hP e1 e2 e3 h4
      go_wp2_with fail
      go_loopg [77] zs.length (fun gf s56 wx => ∃ i : Nat, s56 = .int .i64 i ∧ i ≤ zs.length ∧ zs.length ≤ i + gf ∧ Hid (BoxC w wx N S R nm (.slice pc mc cc) vb vl (.slice po os.length co) ∧ Below w3.heap.size w3 wx))
      case atStart => exact ⟨0, rfl, by omega, by omega, ⟨HX3.out, Below.refl _ _⟩⟩
      case round =>
        obtain ⟨i, rfl, hi1, hgf, HI⟩ := hrel
        by_cases hi : i < zs.length
        · obtain ⟨g', rfl⟩ : ∃ g', gk = g' + 1 := ⟨gk - 1, by omega⟩
          have ios : i < os.length := by have := HE.out.1; omega
          obtain ⟨b, o, rfl, hB, hcc⟩ := HPQ.out (by omega)
          have c0 := hcc i hi
          obtain ⟨y, ey, ⟨ey2, ey3⟩, hmem, hlive, hnn, h7⟩ := H4.out i ios hi
          rw [ey, ← HI.out.2.cell (p := ⟨b, _, none⟩) hB] at c0
          obtain ⟨b2, o2, rfl, hB2, hc2⟩ := HPA.out (by omega)
          have d0 := hc2 y ey2
          rw [ey3, ← HI.out.1.1.cell (p := ⟨b2, _, none⟩) hB2] at d0
          obtain ⟨b3, o3, rfl, hB3, hc3⟩ := HPO.out (by omega)
          obtain ⟨u, hu, hIu⟩ := hc3 i ios
          rw [← HI.out.1.1.cell (p := ⟨b3, _, none⟩) hB3] at hu
          obtain ⟨xs, hxs⟩ : ∃ xs, os[i] = xs := ⟨_, rfl⟩
          rw [hxs] at hIu hmem hlive hnn h7
          have HIu : Hid (IntsL wr u xs) := hIu.below HI.out.1.1
          have HM : Hid ((y : Int) ∈ xs ∧ ∀ z ∈ xs, 0 ≤ z) := ⟨hmem, hnn⟩
          obtain ⟨L, hL⟩ : ∃ L, (liveL al xs).length = L := ⟨_, rfl⟩
          have CL1 : Hid (Calls Tryd.prog 25 #[u, .slice (some ⟨b2, o2, none⟩) al.length ca] wr fun e w' => ∃ p c, e = .returned (.slice p L c) ∧ Below wr.heap.size wr w') := by rw [← hL]; exact CL.out wr u xs HI.out.1.1 HIu.out HM.out.2 h7
          have f5 : ((L : Int) == 0) = false := beq_eq_false_iff_ne.2 (by omega)
          have z0 : (0 : Int) ≤ (i : Int) := by omega
          have z1 : (i : Int) < (zs.length : Int) := by omega
          have z1' : (i : Int) < (os.length : Int) := by omega
          have z3' : ¬ (al.length : Int) ≤ (y : Int) := by omega
          have z4 : (0 : Int) ≤ (y : Int) := by omega
          have z5 : (y : Int) < (al.length : Int) := by omega
          obtain ⟨px, cx, rfl, hxl, hpx⟩ := hIu
          have HPX : Hid (0 < xs.length → ∃ b o, px = some ⟨b, o, none⟩ ∧ b < w.heap.size ∧ ∀ j (h : j < xs.length), w.cell? ⟨b, o + j, none⟩ = some (.int .i64 xs[j])) := hpx
          clear hcc hc2 hc3 ey ey3 hxs hmem hnn hlive hL hpx ios
          obtain ⟨_, _, ⟨x10, x11, x12⟩, x13, x14, x15, x16, x17⟩ := HI.out.1
          go_wp2_with fail
          refine CL1.out.mono ?_
          rintro e w5 ⟨p5, c5, rfl, hb5⟩
          have HI5 : Hid (BoxC w w5 N S R nm (.slice pc mc cc) vb vl (.slice (some ⟨b3, o3, none⟩) os.length co) ∧ Below w3.heap.size w3 w5) := ⟨HI.out.1.below hb5, HI.out.2.trans (hb5.mono HI.out.2.size)⟩
          have hu5 := hu
          rw [← hb5.cell (p := ⟨b3, _, none⟩) (Nat.lt_of_lt_of_le hB3 HI.out.1.1.size)] at hu5
          clear x10 x11 x12 x13 x14 x15 x16 x17 hu c0 d0 hb5 HIu CL1 HI
          obtain ⟨_, _, ⟨x10, x11, x12⟩, x13, x14, x15, x16, x17⟩ := HI5.out.1
          go_wp2_with fail
          go_loopg [16, 110] xs.length (fun gf s16 s2 wx => ∃ (bb : Bool) (k : Nat), s16 = .bool bb ∧ s2 = .int .i64 k ∧ k ≤ xs.length ∧ xs.length ≤ k + gf ∧ wx = w5 ∧ Hid (bb = (xs.take k).any fun z => z == (y : Int)))
          case atStart => exact ⟨false, 0, rfl, rfl, by omega, by omega, rfl, by show _ = _; simp⟩
          case round =>
            obtain ⟨bb, k, rfl, rfl, hk1, hgf2, hwx, HBb⟩ := hrel
            subst hwx
            by_cases hk : k < xs.length
            · obtain ⟨g2, rfl⟩ : ∃ g2, gk = g2 + 1 := ⟨gk - 1, by omega⟩
              obtain ⟨b6, o6, rfl, hB6, hc6⟩ := HPX.out (by omega)
              have k0 := hc6 k hk
              rw [← HI5.out.1.1.cell (p := ⟨b6, _, none⟩) hB6] at k0
              have HS : Hid ((xs.take (k + 1)).any (fun z => z == (y : Int)) = ((xs.take k).any (fun z => z == (y : Int)) || (xs[k] == (y : Int)))) := by
                show _ = _
                rw [List.take_succ_eq_append_getElem hk, List.any_append]
                simp
              have t0 : (0 : Int) ≤ (k : Int) := by omega
              have t1 : (k : Int) < (xs.length : Int) := by omega
              obtain ⟨x, hx⟩ : ∃ x, xs[k] = x := ⟨_, rfl⟩
              rw [hx] at k0
              clear hc6
              cases bb
              all_goals
                go_wp2_with fail
                go_roundg g2
                case measure => omega
                case rel => exact ⟨_, k + 1, rfl, by go_num, by omega, by omega, rfl, by show _ = _; rw [HS.out, ← HBb.out, hx]; rfl⟩
            · have t1 : ¬ (k : Int) < (xs.length : Int) := by omega
              have hbb : bb = true := by
                rw [HBb.out, List.take_of_length_le (by omega), List.any_eq_true]
                exact ⟨_, HM.out.1, by simp⟩
              subst hbb
              clear HBb
              go_wp2_with fail
              go_roundg g'
              case measure => omega
              case rel => exact ⟨i + 1, by go_num, by omega, by omega, HI5⟩
        · have z1 : ¬ (i : Int) < (zs.length : Int) := by omega
          have f9 : ((zs.length : Int) == S) = true := by rw [HE.out.1]; exact beq_iff_eq.2 HE.out.2
          obtain ⟨_, _, ⟨x10, x11, x12⟩, x13, x14, x15, x16, x17⟩ := HI.out.1
          go_wp2_with fail
          go_ret
          exact ⟨rfl, HI.out.1.1⟩
    · have f0' : (P1 != 0) = true := bne_iff_ne.2 hP
      have hz0 := HP0.out hP
      subst hz0
      clear hP
      go_wp2_with fail
      go_ret
      exact ⟨rfl, HX3.out.1⟩
end Go.Proofs.YthfoijnjgdeaaaaDoor
