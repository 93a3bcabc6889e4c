/- The law PlaceOnce returns true. -/
import Derived.Test.YthfoijnjgdeaaaaDoorPi
namespace Go.Proofs.YthfoijnjgdeaaaaDoor
open Go.Shelf Go.RowKit Go.Lib Go.Sort
set_option linter.unusedVariables false
set_option linter.unusedSimpArgs false
attribute [local go_sem ↓] Go.wp_at_zero Go.wp_at_succ
theorem partOf_mem {S : Int} {rs : List (List Val)} {j : Nat} {r : List Val} (h : r ∈ partOf S rs j) : r ∈ rs ∧ shd S r = (j : Int) := by
  unfold partOf at h
  rw [List.mem_filter] at h
  exact ⟨h.1, of_decide_eq_true h.2⟩
theorem flat_len (S : Nat) (rs : List (List Val)) (h : ∀ r ∈ rs, ∃ s : Nat, shd S r = (s : Int) ∧ s < S) (i : Nat) (hi : i ≤ S) : ((List.range i).flatMap (partOf S rs)).length ≤ rs.length := by
  have hp := (perm_parts S rs h).length_eq
  have e : List.range S = List.range i ++ (List.range (S - i)).map (i + ·) := Go.Deep.range_split hi
  rw [e, List.flatMap_append, List.length_append] at hp
  omega
theorem flat_succ (S : Int) (rs : List (List Val)) (i : Nat) : (List.range (i + 1)).flatMap (partOf S rs) = (List.range i).flatMap (partOf S rs) ++ partOf S rs i := by
  rw [List.range_succ, List.flatMap_append]; simp
set_option maxRecDepth 100000 in
set_option maxHeartbeats 8000000 in
theorem once_bad (N S R : Int) (nm : ByteArray) (pc : Option Addr) (mc cc : Nat) (cs : List Col) (pr : Option Addr) (cr : Nat) (rs : List (List Val)) (w : World) (hs : nm.size ≤ 9223372036854775807) (hT : Lib.Utf8Tabs 0 1 w) (hc : ColA w (.slice pc mc cc) cs) (hr : RowsA w pr rs) (he : splitE N S R nm cs rs ≠ 0) :
    Calls Tryd.prog 5 #[.agg #[.int .i64 N, .int .i64 S, .int .i64 R], .agg #[.string nm, .slice pc mc cc, .slice pr rs.length cr]] w fun e w' => e = .returned (.bool true) ∧ Below w.heap.size w w' := by
  have C1 : Hid (∀ W, Below w.heap.size w W → Calls Tryd.prog 13 #[.agg #[.int .i64 N, .int .i64 S, .int .i64 R], .agg #[.string nm, .slice pc mc cc, .slice pr rs.length cr]] W fun e w' => e = .returned (.tuple #[.slice none 0 0, .int .i64 (splitE N S R nm cs rs)]) ∧ Below W.heap.size W w') := fun W h => split_bad N S R nm pc mc cc cs pr cr rs W hs (Utf8Tabs_below hT h) (hc.below h) (hr.below h) he
  obtain ⟨E, hE⟩ : ∃ E, splitE N S R nm cs rs = E := ⟨_, rfl⟩
  rw [hE] at C1 he
  have hne : (E != 0) = true := bne_iff_ne.2 he
  clear hE he hc hr hT
  go_enter Tryd.func5, Tryd.ntmps5
  go_wp2_with fail
  refine (layLives_any _).mono ?_
  rintro e w1 ⟨rfl, hb1⟩
  have y0 : w1.cell? ⟨w.heap.size + 1, 0, none⟩ = some (.string nm) := by rw [hb1.cell (by simp)]; exact two_second w _ _ _ _ _ rfl
  have y1 : w1.cell? ⟨w.heap.size + 1, 1, none⟩ = some (.slice pc mc cc) := by rw [hb1.cell (by simp)]; exact two_second w _ _ _ _ _ rfl
  have y2 : w1.cell? ⟨w.heap.size + 1, 2, none⟩ = some (.slice pr rs.length cr) := by rw [hb1.cell (by simp)]; exact two_second w _ _ _ _ _ rfl
  have z0 : w1.cell? ⟨w.heap.size, 0, none⟩ = some (.int .i64 N) := by rw [hb1.cell (by simp; omega)]; exact two_first w _ _ _ _ _ rfl
  have z1 : w1.cell? ⟨w.heap.size, 1, none⟩ = some (.int .i64 S) := by rw [hb1.cell (by simp; omega)]; exact two_first w _ _ _ _ _ rfl
  have z2 : w1.cell? ⟨w.heap.size, 2, none⟩ = some (.int .i64 R) := by rw [hb1.cell (by simp; omega)]; exact two_first w _ _ _ _ _ rfl
  have HB : Hid (Below w.heap.size w w1) := (two_below w _ _).trans (hb1.mono (by simp; omega))
  clear hb1
  go_wp2_with fail
  refine (C1.out _ HB.out).mono ?_
  rintro e w2 ⟨rfl, hb2⟩
  have HB2 : Hid (Below w.heap.size w w2) := HB.out.trans (hb2.mono HB.out.size)
  clear hb2
  go_wp2_with fail
  go_ret
  exact ⟨rfl, HB2.out⟩
set_option maxRecDepth 100000 in
set_option maxHeartbeats 8000000 in
theorem once_good (N : Int) (S : Nat) (R : Int) (nm : ByteArray) (pc : Option Addr) (mc cc : Nat) (cs : List Col) (pr : Option Addr) (cr : Nat) (rs : List (List Val)) (w : World) (hs : nm.size ≤ 9223372036854775807) (hT : Lib.Utf8Tabs 0 1 w) (hc : ColA w (.slice pc mc cc) cs) (hr : RowsA w pr rs) (hk : ∀ r ∈ rs, ∀ x ∈ r, 0 ≤ x.k) (he : splitE N S R nm cs rs = 0) :
    Calls Tryd.prog 5 #[.agg #[.int .i64 N, .int .i64 S, .int .i64 R], .agg #[.string nm, .slice pc mc cc, .slice pr rs.length cr]] w fun e w' => e = .returned (.bool true) ∧ Below w.heap.size w w' := by
  have h0 : layE N S R = 0 := by
    unfold splitE at he
    by_cases h0 : layE N S R = 0
    · exact h0
    · rw [if_neg h0] at he; exact absurd he h0
  have ht : tableV nm cs rs = 0 := by unfold splitE at he; rw [if_pos h0] at he; exact he
  have hok := table_ok ht
  obtain ⟨k1, k2, k3, k4, k5, k6⟩ := layE_zero.1 h0
  have C1 : Hid (∀ W, Below w.heap.size w W → Calls Tryd.prog 13 #[.agg #[.int .i64 N, .int .i64 S, .int .i64 R], .agg #[.string nm, .slice pc mc cc, .slice pr rs.length cr]] W fun e w' => ∃ w3, e = .returned (.tuple #[.slice (some ⟨w3.heap.size, 0, none⟩) S S, .int .i64 0]) ∧ Below W.heap.size W w3 ∧ SplJ w3 S (partOf S rs) w') := fun W h => split_good N S R nm pc mc cc cs pr cr rs W hs (Utf8Tabs_below hT h) (hc.below h) (hr.below h) hk he
  have HSh : Hid (∀ r ∈ rs, ∃ s : Nat, shd S r = (s : Int) ∧ s < S) := fun r hr => by
    obtain ⟨hne, _, _⟩ := hok.2 r hr
    cases r with
    | nil => exact absurd rfl hne
    | cons x xs =>
      have h1 : 0 ≤ hashV x % (S : Int) := Int.emod_nonneg _ (by omega)
      have h2 : hashV x % (S : Int) < S := Int.emod_lt_of_pos _ (by omega)
      exact ⟨(hashV x % (S : Int)).toNat, by show hashV x % (S : Int) = _; omega, by omega⟩
  have HO : Hid (∀ r ∈ rs, r ≠ [] ∧ r.length ≤ 8 ∧ ∀ x ∈ r, x.k < 4 ∧ x.s.size ≤ 256) := hok.2
  have HK : Hid (∀ r ∈ rs, ∀ x ∈ r, 0 ≤ x.k) := hk
  have HR : Hid (RowsA w pr rs) := hr
  have HE0 : Hid (layE N S R = 0) := h0
  have hn64 := hok.1
  clear hc hr hT hk hok ht he h0
  go_enter Tryd.func5, Tryd.ntmps5
  go_wp2_with fail
  refine (layLives_any _).mono ?_
  rintro e w1 ⟨rfl, hb1⟩
  have y0 : w1.cell? ⟨w.heap.size + 1, 0, none⟩ = some (.string nm) := by rw [hb1.cell (by simp)]; exact two_second w _ _ _ _ _ rfl
  have y1 : w1.cell? ⟨w.heap.size + 1, 1, none⟩ = some (.slice pc mc cc) := by rw [hb1.cell (by simp)]; exact two_second w _ _ _ _ _ rfl
  have y2 : w1.cell? ⟨w.heap.size + 1, 2, none⟩ = some (.slice pr rs.length cr) := by rw [hb1.cell (by simp)]; exact two_second w _ _ _ _ _ rfl
  have z0 : w1.cell? ⟨w.heap.size, 0, none⟩ = some (.int .i64 N) := by rw [hb1.cell (by simp; omega)]; exact two_first w _ _ _ _ _ rfl
  have z1 : w1.cell? ⟨w.heap.size, 1, none⟩ = some (.int .i64 S) := by rw [hb1.cell (by simp; omega)]; exact two_first w _ _ _ _ _ rfl
  have z2 : w1.cell? ⟨w.heap.size, 2, none⟩ = some (.int .i64 R) := by rw [hb1.cell (by simp; omega)]; exact two_first w _ _ _ _ _ rfl
  have hs1 : w.heap.size + 2 ≤ w1.heap.size := by have := hb1.size; simp at this; omega
  have HB : Hid (Below w.heap.size w w1) := (two_below w _ _).trans (hb1.mono (by simp; omega))
  clear hb1
  go_wp2_with fail
  refine (C1.out _ HB.out).mono ?_
  rintro e w2 ⟨w3, rfl, hb3, hJ⟩
  have hb2 : Below w1.heap.size w1 w2 := by
    have hb : Below w3.heap.size w3 w2 := by obtain ⟨_, _, _, _, _, h, _⟩ := hJ; exact h
    exact hb3.trans (hb.mono hb3.size)
  have HJ : Hid (SplJ w3 S (partOf S rs) w2) := hJ
  have HB2 : Hid (Below w.heap.size w w2) := HB.out.trans (hb2.mono HB.out.size)
  have x2 : w2.cell? ⟨w.heap.size + 1, 2, none⟩ = some (.slice pr rs.length cr) := by rw [hb2.cell (p := ⟨w.heap.size + 1, _, none⟩) (by show w.heap.size + 1 < _; omega)]; exact y2
  have v0 : w2.cell? ⟨w.heap.size, 0, none⟩ = some (.int .i64 N) := by rw [hb2.cell (p := ⟨w.heap.size, _, none⟩) (by show w.heap.size < _; omega)]; exact z0
  have v1 : w2.cell? ⟨w.heap.size, 1, none⟩ = some (.int .i64 S) := by rw [hb2.cell (p := ⟨w.heap.size, _, none⟩) (by show w.heap.size < _; omega)]; exact z1
  have v2 : w2.cell? ⟨w.heap.size, 2, none⟩ = some (.int .i64 R) := by rw [hb2.cell (p := ⟨w.heap.size, _, none⟩) (by show w.heap.size < _; omega)]; exact z2
  have hs2 : w.heap.size + 2 ≤ w2.heap.size := Nat.le_trans hs1 hb2.size
  have hG : w3.heap.size < w2.heap.size := by obtain ⟨_, _, hg, _⟩ := hJ; exact (Array.getElem?_eq_some_iff.1 hg).1
  clear hb2 hb3 hJ y0 y1 y2 z0 z1 z2
  go_wp2_with fail
  go_loopg [7, 29] S (fun gf s7 s29 wx => ∃ (i : Nat) (p : Option Addr) (n c : Nat), s7 = .slice p n c ∧ s29 = .int .i64 i ∧ i ≤ S ∧ S ≤ i + gf ∧ Hid (Below w2.heap.size w2 wx) ∧ Hid (PartA w2 wx (.slice p n c) ((List.range i).flatMap (partOf S rs))))
  case atStart => exact ⟨0, none, 0, 0, rfl, rfl, by omega, by omega, Below.refl _ _, PartA.start w2⟩
  case round =>
    obtain ⟨i, p, n, c, rfl, rfl, hi1, hgf, HBi, HPi⟩ := hrel
    by_cases hi : i < S
    · obtain ⟨g', rfl⟩ : ∃ g', gk = g' + 1 := ⟨gk - 1, by omega⟩
      have hlp : (partOf S rs i).length ≤ 64 := Nat.le_trans (partOf_len _ _ _) hn64
      obtain ⟨ps, cs', hcell, hrows⟩ := HJ.out.shard hi (by omega)
      rw [← HBi.out.cell (p := ⟨w3.heap.size, _, none⟩) hG] at hcell
      have HRw : Hid (RowsL w2 (.slice ps (partOf S rs i).length cs') (partOf S rs i)) := hrows
      obtain ⟨_, _, ev, _, hel⟩ := hrows
      simp only [Value.slice.injEq, true_and] at ev
      obtain ⟨rfl, rfl⟩ := ev
      have HEl : Hid (0 < (partOf S rs i).length → ∃ b o, ps = some ⟨b, o, none⟩ ∧ b < w2.heap.size ∧ ∀ j (h : j < (partOf S rs i).length), ∃ u, w2.cell? ⟨b, o + j, none⟩ = some u ∧ RowV w2 u (partOf S rs i)[j]) := hel
      obtain ⟨L, hL⟩ : ∃ L, (partOf S rs i).length = L := ⟨_, rfl⟩
      have HL : Hid ((partOf S rs i).length = L) := hL
      rw [hL] at hcell hlp HRw
      have hz0 : (0 : Int) ≤ (i : Int) := by omega
      have hz1 : (i : Int) < (S : Int) := by omega
      clear hel hL
      obtain ⟨V0, hV0⟩ : ∃ V0 : World, V0 = wr := ⟨_, rfl⟩
      subst hV0
      go_wp2_with fail
      go_loopg [36] L (fun gf s36 wx => ∃ m : Nat, s36 = .int .i64 m ∧ m ≤ L ∧ L ≤ m + gf ∧ Hid (Below V0.heap.size V0 wx))
      case atStart => exact ⟨0, rfl, by omega, by omega, Below.refl _ _⟩
      case round =>
        obtain ⟨m, rfl, hm1, hmf, HBm⟩ := hrel
        have HBw : Hid (Below w2.heap.size w2 wr) := HBi.out.trans (HBm.out.mono HBi.out.size)
        by_cases hm : m < L
        · obtain ⟨g2, rfl⟩ : ∃ g2, gk = g2 + 1 := ⟨gk - 1, by omega⟩
          have hmp : m < (partOf S rs i).length := by rw [HL.out]; exact hm
          obtain ⟨b, o, rfl, hB, hc⟩ := HEl.out (by omega)
          obtain ⟨u, x0, x1⟩ := hc m hmp
          rw [← HBw.out.cell (p := ⟨b, _, none⟩) hB] at x0
          obtain ⟨hmem, hsd⟩ := partOf_mem (List.getElem_mem hmp)
          obtain ⟨hne, hl8, hval⟩ := HO.out _ hmem
          have hkk := HK.out _ hmem
          obtain ⟨r, hr⟩ : ∃ r, (partOf S rs i)[m] = r := ⟨_, rfl⟩
          rw [hr] at x1 hsd hne hval hkk
          obtain ⟨x, xs, rfl⟩ : ∃ x xs, r = x :: xs := by
            cases r with
            | nil => exact absurd rfl hne
            | cons x xs => exact ⟨x, xs, rfl⟩
          have hx := hval x (by simp)
          have hx0 := hkk x (by simp)
          have CS : Hid (Calls Tryd.prog 11 #[.agg #[.int .i64 N, .int .i64 S, .int .i64 R], u] wr fun e w' => e = .returned (.tuple #[.int .i64 (i : Int), .int .i64 0]) ∧ Below wr.heap.size wr w') := by
            rw [← hsd]
            exact shard_any N S R u x xs wr HE0.out (x1.below HBw.out) hx0 (by omega) (by omega)
          obtain ⟨pu, nu, cu, rfl⟩ := x1.slice
          have c0 : wr.cell? ⟨w.heap.size, 0, none⟩ = some (.int .i64 N) := by rw [HBw.out.cell (p := ⟨w.heap.size, _, none⟩) (by show w.heap.size < _; omega)]; exact v0
          have c1 : wr.cell? ⟨w.heap.size, 1, none⟩ = some (.int .i64 S) := by rw [HBw.out.cell (p := ⟨w.heap.size, _, none⟩) (by show w.heap.size < _; omega)]; exact v1
          have c2 : wr.cell? ⟨w.heap.size, 2, none⟩ = some (.int .i64 R) := by rw [HBw.out.cell (p := ⟨w.heap.size, _, none⟩) (by show w.heap.size < _; omega)]; exact v2
          have hz2 : (0 : Int) ≤ (m : Int) := by omega
          have hz3 : (m : Int) < (L : Int) := by omega
          have hii : ((i : Int) != (i : Int)) = false := by simp
          clear hc x1 hmem hsd hne hl8 hval hkk hr hx hx0 hmp
          go_wp2_with fail
          refine CS.out.mono ?_
          rintro e w4 ⟨rfl, hb4⟩
          have HB4 : Hid (Below V0.heap.size V0 w4) := HBm.out.trans (hb4.mono HBm.out.size)
          clear hb4 CS c0 c1 c2 x0
          go_wp2_with fail
          go_roundg g2
          case measure => omega
          case rel => exact ⟨m + 1, by go_num, by omega, by omega, HB4⟩
        · have hz3 : ¬ (m : Int) < (L : Int) := by omega
          have hfl := flat_len S rs HSh.out i (by omega)
          obtain ⟨p', n', c', W', e1, hP', hB'⟩ := (HPi.out.below HBm.out).more (ls := partOf S rs i) HRw.out HBw.out (by rw [HL.out]; omega)
          have E1 : Hid _ := e1
          have HP' : Hid (PartA w2 W' (.slice p' n' c') ((List.range (i + 1)).flatMap (partOf S rs))) := by rw [flat_succ]; exact hP'
          have HB' : Hid (Below w2.heap.size w2 W') := hB'
          clear e1 hP' hB' hfl
          go_wp2_with (at_builtin; refine wpList_append_run _ rfl _ _ 27 27 rfl _ _ _ _ rfl rfl E1.out ?_)
          go_roundg g'
          case measure => omega
          case rel => exact ⟨i + 1, p', n', c', rfl, by go_num, by omega, by omega, HB', HP'⟩
    · have hend : i = S := by omega
      subst hend
      have hz1 : ¬ (i : Int) < (i : Int) := by omega
      have hpp := perm_parts i rs HSh.out
      have hfl := flat_len i rs HSh.out i (Nat.le_refl _)
      have HBw : Hid (Below w.heap.size w wr) := HB2.out.trans (HBi.out.mono HB2.out.size)
      have CB : Hid (Calls Tryd.prog 24 #[.slice p n c, .slice pr rs.length cr] wr fun e w' => e = .returned (.bool true) ∧ Below wr.heap.size wr w') := sameBag_is _ _ ((List.range i).flatMap (partOf i rs)) rs wr (HPi.out.rows HBi.out (by omega)) (rowsA_rows cr (HR.out.below HBw.out)) (by omega) true (by simpa using hpp)
      have c1 : wr.cell? ⟨w.heap.size, 1, none⟩ = some (.int .i64 i) := by rw [HBi.out.cell (p := ⟨w.heap.size, _, none⟩) (by show w.heap.size < _; omega)]; exact v1
      have x3 : wr.cell? ⟨w.heap.size + 1, 2, none⟩ = some (.slice pr rs.length cr) := by rw [HBi.out.cell (p := ⟨w.heap.size + 1, _, none⟩) (by show w.heap.size + 1 < _; omega)]; exact x2
      have hii : ((i : Int) == (i : Int)) = true := by simp
      clear hpp hfl HPi HJ
      go_wp2_with fail
      refine CB.out.mono ?_
      rintro e w5 ⟨rfl, hb5⟩
      have HB5 : Hid (Below w.heap.size w w5) := HBw.out.trans (hb5.mono HBw.out.size)
      clear hb5
      go_wp2_with fail
      go_ret
      exact ⟨rfl, HB5.out⟩
end Go.Proofs.YthfoijnjgdeaaaaDoor
