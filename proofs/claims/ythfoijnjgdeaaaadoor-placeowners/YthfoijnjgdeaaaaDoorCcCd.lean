/- Claims: what the reference's CheckClaim answers. -/
import Derived.Test.YthfoijnjgdeaaaaDoorCaCb
namespace Go.Proofs.YthfoijnjgdeaaaaDoor
open Go.Shelf Go.RowKit Go.Lib Go.Sort
set_option linter.unusedVariables false
set_option linter.unusedSimpArgs false
attribute [local go_sem ↓] Go.wp_at_zero Go.wp_at_succ
/-- Lists of owners that lie in memory. -/
def OwnsL (w : World) (v : Value) (os : List (List Int)) : Prop :=
  ∃ p c, v = .slice p os.length c ∧ os.length ≤ 9223372036854775807 ∧ (0 < os.length → ∃ b o, p = some ⟨b, o, none⟩ ∧ b < w.heap.size ∧ ∀ j (h : j < os.length), ∃ u, w.cell? ⟨b, o + j, none⟩ = some u ∧ IntsL w u os[j])
theorem OwnsL.below {w W : World} {v : Value} {os : List (List Int)} (h : OwnsL w v os) (hb : Below w.heap.size w W) : OwnsL W v os := by
  obtain ⟨p, c, rfl, hl, h⟩ := h
  refine ⟨p, c, rfl, hl, fun h0 => ?_⟩
  obtain ⟨b, o, rfl, hlt, hc⟩ := h h0
  refine ⟨b, o, rfl, Nat.lt_of_lt_of_le hlt hb.size, fun j hj => ?_⟩
  obtain ⟨u, h1, h2⟩ := hc j hj
  exact ⟨u, by rw [hb.cell (p := ⟨b, _, none⟩) hlt]; exact h1, h2.below hb⟩
def allO (N : Int) (os : List (List Int)) : Bool := os.all fun zs => areOs N zs
/-- What is wrong with a claim. -/
def claimE (N S R : Int) (nm : ByteArray) (cs : List Col) (os : List (List Int)) : Int :=
  if layE N S R = 0 then (if tableV nm cs [] = 0 then (if (os.length : Int) = S then (if allO N os = true then 0 else 6) else 6) else 6) else 2
theorem rowsA_nil (w : World) : RowsA w none [] := ⟨by simp, fun h => by simp at h⟩
theorem allO_at (N : Int) (os : List (List Int)) (i : Nat) (hi : i < os.length) : allO N (os.drop i) = (areOs N os[i] && allO N (os.drop (i + 1))) := by
  rw [List.drop_eq_getElem_cons hi]; rfl
set_option maxRecDepth 100000 in
set_option maxHeartbeats 2000000 in
theorem refClaim_any (N S R : Int) (nm : ByteArray) (pc : Option Addr) (mc cc : Nat) (cs : List Col) (vb vl : Int) (vo : Value) (os : List (List Int)) (w : World) (hc : ColA w (.slice pc mc cc) cs) (ho : OwnsL w vo os) :
    Calls Tryd.prog 23 #[.agg #[.int .i64 N, .int .i64 S, .int .i64 R], .agg #[.string nm, .slice pc mc cc, .int .u64 vb, .int .u64 vl, vo]] w fun e w' => e = .returned (.int .i64 (claimE N S R nm cs os)) ∧ Below w.heap.size w w' := by
  obtain ⟨po, co, rfl, hol, hp⟩ := ho
  have HP : Hid (0 < os.length → ∃ b o, po = some ⟨b, o, none⟩ ∧ b < w.heap.size ∧ ∀ j (h : j < os.length), ∃ u, w.cell? ⟨b, o + j, none⟩ = some u ∧ IntsL w u os[j]) := hp
  have C2 : Hid (∀ W, Below w.heap.size w W → Calls Tryd.prog 32 #[.agg #[.string nm, .slice pc mc cc, .slice none 0 0]] W fun e w' => e = .returned (.int .i64 (tableV nm cs [])) ∧ Below W.heap.size W w') := fun W h => tableRef_core nm pc mc cc cs none 0 [] W (hc.below h) (rowsA_nil W) _ (show _ = _ from rfl)
  clear hp hc
  by_cases h0 : layE N S R = 0
  · have C1 : Hid (∀ W, Calls Tryd.prog 19 #[.agg #[.int .i64 N, .int .i64 S, .int .i64 R]] W fun e w' => e = .returned (.int .i64 0) ∧ Below W.heap.size W w') := fun W => by rw [← h0]; exact refLay_any N S R W
    obtain ⟨k1, k2, k3, k4, k5, k6⟩ := layE_zero.1 h0
    obtain ⟨E, hE⟩ : ∃ E, tableV nm cs [] = E := ⟨_, rfl⟩
    have e : claimE N S R nm cs os = if E = 0 then (if (os.length : Int) = S then (if allO N os = true then 0 else 6) else 6) else 6 := by unfold claimE; rw [if_pos h0, hE]
    rw [e]
    rw [hE] at C2
    clear e hE h0
    by_cases h1 : E = 0
    · subst h1
      rw [if_pos rfl]
      by_cases h2 : (os.length : Int) = S
      · rw [if_pos h2]
        obtain ⟨T, hT⟩ : ∃ T, allO N os = T := ⟨_, rfl⟩
        have HT : Hid (allO N (os.drop 0) = T) := hT
        rw [hT]
        have n1 : ((os.length : Int) != S) = false := by rw [h2]; simp
        have hS8 : os.length ≤ 8 := by omega
        obtain ⟨A, hA⟩ : ∃ A : Int, (if T = true then (0 : Int) else 6) = A := ⟨_, rfl⟩
        have HA : Hid ((if T = true then (0 : Int) else 6) = A) := hA
        rw [hA]
        clear hT h2 hA
        go_enter Tryd.func23, Tryd.ntmps23
        go_wp2_with fail
        refine (C1.out _).mono ?_
        rintro e w1 ⟨rfl, hb1⟩
        have z0 : w1.cell? ⟨w.heap.size, 0, none⟩ = some (.int .i64 N) := by rw [hb1.cell (by simp; omega)]; exact two_first w _ _ _ _ _ rfl
        have z1 : w1.cell? ⟨w.heap.size, 1, none⟩ = some (.int .i64 S) := by rw [hb1.cell (by simp; omega)]; exact two_first w _ _ _ _ _ rfl
        have y0 : w1.cell? ⟨w.heap.size + 1, 0, none⟩ = some (.string nm) := by rw [hb1.cell (by simp)]; exact two_second w _ _ _ _ _ rfl
        have y1 : w1.cell? ⟨w.heap.size + 1, 1, none⟩ = some (.slice pc mc cc) := by rw [hb1.cell (by simp)]; exact two_second w _ _ _ _ _ rfl
        have y4 : w1.cell? ⟨w.heap.size + 1, 4, none⟩ = some (.slice po os.length co) := by rw [hb1.cell (by simp)]; exact two_second w _ _ _ _ _ rfl
        have hs1 : w.heap.size + 2 ≤ w1.heap.size := by have := hb1.size; simp at this; omega
        have HB : Hid (Below w.heap.size w w1) := (two_below w _ _).trans (hb1.mono (by simp; omega))
        clear hb1
        go_wp2_with fail
        refine (C2.out _ HB.out).mono ?_
        rintro e w2 ⟨rfl, hb2⟩
        have x0 : w2.cell? ⟨w.heap.size, 0, none⟩ = some (.int .i64 N) := by rw [hb2.cell (p := ⟨w.heap.size, _, none⟩) (by show w.heap.size < _; omega)]; exact z0
        have x1 : w2.cell? ⟨w.heap.size, 1, none⟩ = some (.int .i64 S) := by rw [hb2.cell (p := ⟨w.heap.size, _, none⟩) (by show w.heap.size < _; omega)]; exact z1
        have x4 : w2.cell? ⟨w.heap.size + 1, 4, none⟩ = some (.slice po os.length co) := by rw [hb2.cell (p := ⟨w.heap.size + 1, _, none⟩) (by show w.heap.size + 1 < _; omega)]; exact y4
        have HB2 : Hid (Below w.heap.size w w2) := HB.out.trans (hb2.mono HB.out.size)
        clear hb2 z0 z1 y0 y1 y4 HB
        go_wp2_with fail
        go_loopg [31] os.length (fun gf s31 wx => ∃ i : Nat, s31 = .int .i64 i ∧ i ≤ os.length ∧ os.length ≤ i + gf ∧ wx = w2 ∧ Hid (allO N (os.drop i) = T))
        case atStart => exact ⟨0, rfl, by omega, by omega, rfl, HT⟩
        case round =>
          clear HT
          obtain ⟨i, rfl, hi1, hgf, rfl, HT⟩ := hrel
          by_cases hi : i < os.length
          · obtain ⟨g', rfl⟩ : ∃ g', gk = g' + 1 := ⟨gk - 1, by omega⟩
            obtain ⟨b, o, rfl, hB, hc⟩ := HP.out (by omega)
            obtain ⟨u, c0, c1⟩ := hc i hi
            rw [← HB2.out.cell (p := ⟨b, _, none⟩) hB] at c0
            have hat := allO_at N os i hi
            rw [HT.out] at hat
            obtain ⟨zs, hzs⟩ : ∃ zs, os[i] = zs := ⟨_, rfl⟩
            rw [hzs] at c1 hat
            obtain ⟨pu, cu, rfl, hul, hpu⟩ := c1.below HB2.out
            have HU : Hid (0 < zs.length → ∃ b o, pu = some ⟨b, o, none⟩ ∧ b < wr.heap.size ∧ ∀ j (h : j < zs.length), wr.cell? ⟨b, o + j, none⟩ = some (.int .i64 zs[j])) := hpu
            obtain ⟨T2, hT2⟩ : ∃ T2, areO N 0 zs = T2 := ⟨_, rfl⟩
            have HT2 : Hid (areO N 0 (zs.drop 0) = T2) := hT2
            have HAT : Hid (T = (T2 && decide (0 < zs.length) && allO N (os.drop (i + 1)))) := by
              show _ = _
              rw [hat, areOs, hT2]
            have hz0 : (0 : Int) ≤ (i : Int) := by omega
            have hz1 : (i : Int) < (os.length : Int) := by omega
            clear hc c1 hpu hat hT2 hzs
            go_wp2_with fail
            go_loopg [7, 37] zs.length (fun gf s7 s37 wx => ∃ (j : Nat) (la : Int), s7 = .int .i64 la ∧ s37 = .int .i64 j ∧ j ≤ zs.length ∧ zs.length ≤ j + gf ∧ wx = wr ∧ Hid (areO N la (zs.drop j) = T2))
            case atStart => exact ⟨0, 0, rfl, rfl, by omega, by omega, rfl, HT2⟩
            case round =>
              clear HT2
              obtain ⟨j, la, rfl, rfl, hj1, hjf, hwx, HT2⟩ := hrel
              subst hwx
              by_cases hj : j < zs.length
              · obtain ⟨g2, rfl⟩ : ∃ g2, gk = g2 + 1 := ⟨gk - 1, by omega⟩
                obtain ⟨b2, o2, rfl, hB2, hc2⟩ := HU.out (by omega)
                have d0 := hc2 j hj
                have hd : zs.drop j = zs[j] :: zs.drop (j + 1) := List.drop_eq_getElem_cons hj
                obtain ⟨z, hz⟩ : ∃ z, zs[j] = z := ⟨_, rfl⟩
                rw [hz] at d0 hd
                have ht := HT2.out
                rw [hd] at ht
                have hz2 : (0 : Int) ≤ (j : Int) := by omega
                have hz3 : (j : Int) < (zs.length : Int) := by omega
                clear hc2 hd hz HT2
                by_cases q1 : z ≤ la
                · have HF : Hid (A = 6) := by
                    show _ = _
                    have e1 : T2 = false := by rw [← ht, areO, decide_eq_false (by omega : ¬ la + 1 ≤ z), Bool.false_and, Bool.false_and]
                    rw [← HA.out, HAT.out, e1]; simp
                  clear ht
                  go_wp2_with fail
                  go_ret
                  exact ⟨by rw [HF.out]; rfl, HB2.out⟩
                · by_cases q2 : N ≤ z
                  · have HF : Hid (A = 6) := by
                      show _ = _
                      have e1 : T2 = false := by rw [← ht, areO, decide_eq_false (by omega : ¬ z ≤ N - 1), Bool.and_false, Bool.false_and]
                      rw [← HA.out, HAT.out, e1]; simp
                    clear ht
                    go_wp2_with fail
                    go_ret
                    exact ⟨by rw [HF.out]; rfl, HB2.out⟩
                  · have HT3 : Hid (areO N z (zs.drop (j + 1)) = T2) := by
                      show _ = _
                      rw [← ht, areO, decide_eq_true (by omega : la + 1 ≤ z), decide_eq_true (by omega : z ≤ N - 1), Bool.true_and, Bool.true_and]
                    clear ht
                    go_wp2_with fail
                    go_roundg g2
                    case measure => omega
                    case rel => exact ⟨j + 1, z, rfl, by go_num, by omega, by omega, rfl, HT3⟩
              · have hend : j = zs.length := by omega
                have hz3 : ¬ (j : Int) < (zs.length : Int) := by omega
                have HF2 : Hid (T2 = true) := by
                  show _ = _
                  rw [← HT2.out, hend, List.drop_length, areO]
                clear HT2 hend
                by_cases h3 : zs.length = 0
                · have HF : Hid (A = 6) := by
                    show _ = _
                    rw [← HA.out, HAT.out, decide_eq_false (by omega : ¬ 0 < zs.length)]; simp
                  have hz4 : ((zs.length : Int) == 0) = true := beq_iff_eq.2 (by omega)
                  clear h3
                  go_wp2_with fail
                  go_ret
                  exact ⟨by rw [HF.out]; rfl, HB2.out⟩
                · have HT4 : Hid (allO N (os.drop (i + 1)) = T) := by
                    show _ = _
                    rw [HAT.out, HF2.out, decide_eq_true (by omega : 0 < zs.length), Bool.true_and, Bool.true_and]
                  have hz4 : ((zs.length : Int) == 0) = false := beq_eq_false_iff_ne.2 (by omega)
                  clear h3
                  go_wp2_with fail
                  go_roundg g'
                  case measure => omega
                  case rel => exact ⟨i + 1, by go_num, by omega, by omega, rfl, HT4⟩
          · have hend : i = os.length := by omega
            have hz1 : ¬ (i : Int) < (os.length : Int) := by omega
            have HF : Hid (A = 0) := by
              show _ = _
              have e1 : T = true := by rw [← HT.out, hend, List.drop_length]; rfl
              rw [← HA.out, e1]; rfl
            clear HT hend
            go_wp2_with fail
            go_ret
            exact ⟨by rw [HF.out]; rfl, HB2.out⟩
      · rw [if_neg h2]
        have n1 : ((os.length : Int) != S) = true := bne_iff_ne.2 h2
        clear h2
        go_enter Tryd.func23, Tryd.ntmps23
        go_wp2_with fail
        refine (C1.out _).mono ?_
        rintro e w1 ⟨rfl, hb1⟩
        have z1 : w1.cell? ⟨w.heap.size, 1, none⟩ = some (.int .i64 S) := by rw [hb1.cell (by simp; omega)]; exact two_first w _ _ _ _ _ rfl
        have y0 : w1.cell? ⟨w.heap.size + 1, 0, none⟩ = some (.string nm) := by rw [hb1.cell (by simp)]; exact two_second w _ _ _ _ _ rfl
        have y1 : w1.cell? ⟨w.heap.size + 1, 1, none⟩ = some (.slice pc mc cc) := by rw [hb1.cell (by simp)]; exact two_second w _ _ _ _ _ rfl
        have y4 : w1.cell? ⟨w.heap.size + 1, 4, none⟩ = some (.slice po os.length co) := by rw [hb1.cell (by simp)]; exact two_second w _ _ _ _ _ rfl
        have hs1 : w.heap.size + 2 ≤ w1.heap.size := by have := hb1.size; simp at this; omega
        have HB : Hid (Below w.heap.size w w1) := (two_below w _ _).trans (hb1.mono (by simp; omega))
        clear hb1
        go_wp2_with fail
        refine (C2.out _ HB.out).mono ?_
        rintro e w2 ⟨rfl, hb2⟩
        have x1 : w2.cell? ⟨w.heap.size, 1, none⟩ = some (.int .i64 S) := by rw [hb2.cell (p := ⟨w.heap.size, _, none⟩) (by show w.heap.size < _; omega)]; exact z1
        have x4 : w2.cell? ⟨w.heap.size + 1, 4, none⟩ = some (.slice po os.length co) := by rw [hb2.cell (p := ⟨w.heap.size + 1, _, none⟩) (by show w.heap.size + 1 < _; omega)]; exact y4
        have HB2 : Hid (Below w.heap.size w w2) := HB.out.trans (hb2.mono HB.out.size)
        clear hb2 z1 y0 y1 y4 HB
        go_wp2_with fail
        go_ret
        exact ⟨rfl, HB2.out⟩
    · rw [if_neg h1]
      have n1 : (E != 0) = true := bne_iff_ne.2 h1
      clear h1
      go_enter Tryd.func23, Tryd.ntmps23
      go_wp2_with fail
      refine (C1.out _).mono ?_
      rintro e w1 ⟨rfl, hb1⟩
      have y0 : w1.cell? ⟨w.heap.size + 1, 0, none⟩ = some (.string nm) := by rw [hb1.cell (by simp)]; exact two_second w _ _ _ _ _ rfl
      have y1 : w1.cell? ⟨w.heap.size + 1, 1, none⟩ = some (.slice pc mc cc) := by rw [hb1.cell (by simp)]; exact two_second w _ _ _ _ _ rfl
      have HB : Hid (Below w.heap.size w w1) := (two_below w _ _).trans (hb1.mono (by simp; omega))
      clear hb1
      go_wp2_with fail
      refine (C2.out _ HB.out).mono ?_
      rintro e w2 ⟨rfl, hb2⟩
      have HB2 : Hid (Below w.heap.size w w2) := HB.out.trans (hb2.mono HB.out.size)
      clear hb2
      go_wp2_with fail
      go_ret
      exact ⟨rfl, HB2.out⟩
  · have C1 : Hid (∀ W, Calls Tryd.prog 19 #[.agg #[.int .i64 N, .int .i64 S, .int .i64 R]] W fun e w' => e = .returned (.int .i64 2) ∧ Below W.heap.size W w') := fun W => by rw [← layE_two h0]; exact refLay_any N S R W
    have e : claimE N S R nm cs os = 2 := by unfold claimE; rw [if_neg h0]
    rw [e]
    clear e h0
    go_enter Tryd.func23, Tryd.ntmps23
    go_wp2_with fail
    refine (C1.out _).mono ?_
    rintro e w1 ⟨rfl, hb1⟩
    have HB : Hid (Below w.heap.size w w1) := (two_below w _ _).trans (hb1.mono (by simp; omega))
    clear hb1
    go_wp2_with fail
    go_ret
    exact ⟨rfl, HB.out⟩
end Go.Proofs.YthfoijnjgdeaaaaDoor
/- Claims: what CheckClaim answers. -/
namespace Go.Proofs.YthfoijnjgdeaaaaDoor
open Go.Shelf Go.RowKit Go.Lib Go.Sort
set_option linter.unusedVariables false
set_option linter.unusedSimpArgs false
attribute [local go_sem ↓] Go.wp_at_zero Go.wp_at_succ
/-- A layout's box. -/
def BoxL (W : World) (bl : Nat) (N S R : Int) : Prop := bl < W.heap.size ∧ W.cell? ⟨bl, 0, none⟩ = some (.int .i64 N) ∧ W.cell? ⟨bl, 1, none⟩ = some (.int .i64 S) ∧ W.cell? ⟨bl, 2, none⟩ = some (.int .i64 R)
theorem BoxL.below {W W' : World} {bl : Nat} {N S R : Int} (h : BoxL W bl N S R) (hb : Below W.heap.size W W') : BoxL W' bl N S R := by
  obtain ⟨h0, h1, h2, h3⟩ := h
  exact ⟨Nat.lt_of_lt_of_le h0 hb.size, by rw [hb.cell (p := ⟨bl, _, none⟩) h0]; exact h1, by rw [hb.cell (p := ⟨bl, _, none⟩) h0]; exact h2, by rw [hb.cell (p := ⟨bl, _, none⟩) h0]; exact h3⟩
set_option maxRecDepth 100000 in
set_option maxHeartbeats 2000000 in
theorem claimFn_any (N S R : Int) (bl : Nat) (v : Value) (zs : List Int) (w : World) (hN : 2 ≤ N ∧ N ≤ 8) (hx : BoxL w bl N S R) (hz : IntsL w v zs) :
    Calls Tryd.prog 38 #[v, .pointer (some ⟨bl, 0, none⟩)] w fun e w' => e = .returned (.bool (!areOs N zs)) ∧ Below w.heap.size w w' := by
  have C1 : Hid (Calls Tryd.prog 39 #[.agg #[.int .i64 N, .int .i64 S, .int .i64 R], v] w fun e w' => e = .returned (.bool (areOs N zs)) ∧ Below w.heap.size w w') := areOwners_any N S R v zs w hN hz
  obtain ⟨T, hT⟩ : ∃ T, areOs N zs = T := ⟨_, rfl⟩
  rw [hT] at C1 ⊢
  obtain ⟨_, x0, x1, x2⟩ := hx
  clear hT hz
  go_enter Tryd.func38, Tryd.ntmps38
  go_wp2_with fail
  refine C1.out.mono ?_
  rintro e w1 ⟨rfl, hb1⟩
  have HB : Hid (Below w.heap.size w w1) := hb1
  clear hb1
  go_wp2_with fail
  go_ret
  exact ⟨rfl, HB.out⟩
set_option maxRecDepth 100000 in
set_option maxHeartbeats 2000000 in
theorem claimIdx_any (N S R : Int) (bl : Nat) (v : Value) (os : List (List Int)) (w : World) (hN : 2 ≤ N ∧ N ≤ 8) (hx : BoxL w bl N S R) (ho : OwnsL w v os) :
    Calls Tryd.prog 56 #[v, .func (.func 38) #[] #[.pointer (some ⟨bl, 0, none⟩)]] w fun e w' => ∃ k : Int, e = .returned (.int .i64 k) ∧ (allO N os = true → k = -1) ∧ (allO N os = false → 0 ≤ k) ∧ Below w.heap.size w w' := by
  obtain ⟨p, c, rfl, hl, hp⟩ := ho
  have HP : Hid (0 < os.length → ∃ b o, p = some ⟨b, o, none⟩ ∧ b < w.heap.size ∧ ∀ j (h : j < os.length), ∃ u, w.cell? ⟨b, o + j, none⟩ = some u ∧ IntsL w u os[j]) := hp
  have HX : Hid (BoxL w bl N S R) := hx
  have HN : Hid (2 ≤ N ∧ N ≤ 8) := hN
  obtain ⟨T, hT⟩ : ∃ T, allO N os = T := ⟨_, rfl⟩
  have HT : Hid (allO N (os.drop 0) = T) := hT
  rw [hT]
  clear hp hx hN hT
  go_enter Tryd.func56, Tryd.ntmps56
  go_wp2_with fail
  go_loopg [8] os.length (fun gf s8 wx => ∃ i : Nat, s8 = .int .i64 i ∧ i ≤ os.length ∧ os.length ≤ i + gf ∧ Hid (Below w.heap.size w wx) ∧ Hid (allO N (os.drop i) = T))
  case atStart => exact ⟨0, rfl, by omega, by omega, Below.refl _ _, HT⟩
  case round =>
    clear HT
    obtain ⟨i, rfl, hi1, hgf, HB, HT⟩ := hrel
    by_cases hi : i < os.length
    · obtain ⟨g', rfl⟩ : ∃ g', gk = g' + 1 := ⟨gk - 1, by omega⟩
      obtain ⟨b, o, rfl, hB, hc⟩ := HP.out (by omega)
      obtain ⟨u, c0, c1⟩ := hc i hi
      rw [← HB.out.cell (p := ⟨b, _, none⟩) hB] at c0
      have hat := allO_at N os i hi
      rw [HT.out] at hat
      have C1 : Hid (Calls Tryd.prog 38 #[u, .pointer (some ⟨bl, 0, none⟩)] wr fun e w' => e = .returned (.bool (!areOs N os[i])) ∧ Below wr.heap.size wr w') := claimFn_any N S R bl u os[i] wr HN.out (HX.out.below HB.out) (c1.below HB.out)
      obtain ⟨pu, cu, rfl, _, _⟩ := c1
      obtain ⟨Lu, hLu⟩ : ∃ Lu, os[i].length = Lu := ⟨_, rfl⟩
      rw [hLu] at C1 c0
      have hz0 : (0 : Int) ≤ (i : Int) := by omega
      have hz1 : (i : Int) < (os.length : Int) := by omega
      clear hc hLu HT
      cases ha : areOs N os[i]
      · rw [ha] at hat C1
        have HF : Hid (T = false) := by show _ = _; rw [hat, Bool.false_and]
        clear hat ha
        go_wp2_with fail
        refine C1.out.mono ?_
        rintro e w2 ⟨rfl, hb2⟩
        have HB2 : Hid (Below w.heap.size w w2) := HB.out.trans (hb2.mono HB.out.size)
        clear hb2 C1
        go_wp2_with fail
        go_ret
        exact ⟨_, rfl, fun h => (by rw [HF.out] at h; cases h), fun _ => (by omega), HB2.out⟩
      · rw [ha] at hat C1
        have HT2 : Hid (allO N (os.drop (i + 1)) = T) := by show _ = _; rw [hat, Bool.true_and]
        clear hat ha
        go_wp2_with fail
        refine C1.out.mono ?_
        rintro e w2 ⟨rfl, hb2⟩
        have HB2 : Hid (Below w.heap.size w w2) := HB.out.trans (hb2.mono HB.out.size)
        clear hb2 C1
        go_wp2_with fail
        go_roundg g'
        case measure => omega
        case rel => exact ⟨i + 1, by go_num, by omega, by omega, HB2, HT2⟩
    · have hend : i = os.length := by omega
      have hz1 : ¬ (i : Int) < (os.length : Int) := by omega
      have HF : Hid (T = true) := by show _ = _; rw [← HT.out, hend, List.drop_length]; rfl
      clear HT hend
      go_wp2_with fail
      go_ret
      exact ⟨_, rfl, fun _ => rfl, fun h => (by rw [HF.out] at h; cases h), HB.out⟩
set_option maxRecDepth 100000 in
set_option maxHeartbeats 2000000 in
theorem claimHas_any (N S R : Int) (bl : Nat) (v : Value) (os : List (List Int)) (w : World) (hN : 2 ≤ N ∧ N ≤ 8) (hx : BoxL w bl N S R) (ho : OwnsL w v os) :
    Calls Tryd.prog 37 #[v, .func (.func 38) #[] #[.pointer (some ⟨bl, 0, none⟩)]] w fun e w' => e = .returned (.bool (!allO N os)) ∧ Below w.heap.size w w' := by
  have C1 : Hid (Calls Tryd.prog 56 #[v, .func (.func 38) #[] #[.pointer (some ⟨bl, 0, none⟩)]] w fun e w' => ∃ k : Int, e = .returned (.int .i64 k) ∧ (allO N os = true → k = -1) ∧ (allO N os = false → 0 ≤ k) ∧ Below w.heap.size w w') := claimIdx_any N S R bl v os w hN hx ho
  obtain ⟨p, c, rfl, _, _⟩ := ho
  obtain ⟨T, hT⟩ : ∃ T, allO N os = T := ⟨_, rfl⟩
  rw [hT] at C1 ⊢
  clear hT hx hN
  go_enter Tryd.func37, Tryd.ntmps37
  go_wp2_with fail
  refine C1.out.mono ?_
  rintro e w1 ⟨k, rfl, h1, h2, hb1⟩
  have HB : Hid (Below w.heap.size w w1) := hb1
  clear hb1 C1
  cases T
  · have hk := h2 rfl
    clear h1 h2
    go_wp2_with fail
    go_ret
    exact ⟨rfl, HB.out⟩
  · obtain rfl := h1 rfl
    clear h2
    go_wp2_with fail
    go_ret
    exact ⟨rfl, HB.out⟩
set_option maxRecDepth 100000 in
set_option maxHeartbeats 2000000 in
theorem claim_any (N S R : Int) (nm : ByteArray) (pc : Option Addr) (mc cc : Nat) (cs : List Col) (vb vl : Int) (vo : Value) (os : List (List Int)) (w : World) (hs : nm.size ≤ 9223372036854775807) (hT : Lib.Utf8Tabs 0 1 w) (hc : ColA w (.slice pc mc cc) cs) (ho : OwnsL w vo os) :
    Calls Tryd.prog 22 #[.agg #[.int .i64 N, .int .i64 S, .int .i64 R], .agg #[.string nm, .slice pc mc cc, .int .u64 vb, .int .u64 vl, vo]] w fun e w' => e = .returned (.int .i64 (claimE N S R nm cs os)) ∧ Below w.heap.size w w' := by
  obtain ⟨po, co, rfl, hol, hp⟩ := ho
  have HP : Hid (0 < os.length → ∃ b o, po = some ⟨b, o, none⟩ ∧ b < w.heap.size ∧ ∀ j (h : j < os.length), ∃ u, w.cell? ⟨b, o + j, none⟩ = some u ∧ IntsL w u os[j]) := hp
  have C2 : Hid (∀ W, Below w.heap.size w W → Calls Tryd.prog 30 #[.agg #[.string nm, .slice pc mc cc, .slice none 0 0]] W fun e w' => e = .returned (.int .i64 (tableV nm cs [])) ∧ Below W.heap.size W w') := fun W h => table_core nm pc mc cc cs none 0 [] W hs (Utf8Tabs_below hT h) (hc.below h) (rowsA_nil W) _ (show _ = _ from rfl)
  have HO : Hid (OwnsL w (.slice po os.length co) os) := ⟨po, co, rfl, hol, hp⟩
  clear hp hc hT HP
  by_cases h0 : layE N S R = 0
  · have C1 : Hid (∀ W, Calls Tryd.prog 18 #[.agg #[.int .i64 N, .int .i64 S, .int .i64 R]] W fun e w' => e = .returned (.int .i64 0) ∧ Below W.heap.size W w') := fun W => by rw [← h0]; exact layCheck_any N S R W
    obtain ⟨k1, k2, k3, k4, k5, k6⟩ := layE_zero.1 h0
    obtain ⟨E, hE⟩ : ∃ E, tableV nm cs [] = E := ⟨_, rfl⟩
    have e : claimE N S R nm cs os = if E = 0 then (if (os.length : Int) = S then (if allO N os = true then 0 else 6) else 6) else 6 := by unfold claimE; rw [if_pos h0, hE]
    rw [e]
    rw [hE] at C2
    clear e hE h0
    by_cases h1 : E = 0
    · subst h1
      rw [if_pos rfl]
      by_cases h2 : (os.length : Int) = S
      · rw [if_pos h2]
        obtain ⟨T, hT⟩ : ∃ T, allO N os = T := ⟨_, rfl⟩
        have HT : Hid (allO N os = T) := hT
        rw [hT]
        have n1 : ((os.length : Int) != S) = false := by rw [h2]; simp
        have hS8 : os.length ≤ 8 := by omega
        obtain ⟨A, hA⟩ : ∃ A : Int, (if T = true then (0 : Int) else 6) = A := ⟨_, rfl⟩
        have HA : Hid ((if T = true then (0 : Int) else 6) = A) := hA
        rw [hA]
        clear hT h2 hA
        go_enter Tryd.func22, Tryd.ntmps22
        go_wp2_with fail
        refine (C1.out _).mono ?_
        rintro e w1 ⟨rfl, hb1⟩
        have z0 : w1.cell? ⟨w.heap.size, 0, none⟩ = some (.int .i64 N) := by rw [hb1.cell (by simp; omega)]; exact two_first w _ _ _ _ _ rfl
        have z1 : w1.cell? ⟨w.heap.size, 1, none⟩ = some (.int .i64 S) := by rw [hb1.cell (by simp; omega)]; exact two_first w _ _ _ _ _ rfl
        have z2 : w1.cell? ⟨w.heap.size, 2, none⟩ = some (.int .i64 R) := by rw [hb1.cell (by simp; omega)]; exact two_first w _ _ _ _ _ rfl
        have y0 : w1.cell? ⟨w.heap.size + 1, 0, none⟩ = some (.string nm) := by rw [hb1.cell (by simp)]; exact two_second w _ _ _ _ _ rfl
        have y1 : w1.cell? ⟨w.heap.size + 1, 1, none⟩ = some (.slice pc mc cc) := by rw [hb1.cell (by simp)]; exact two_second w _ _ _ _ _ rfl
        have y4 : w1.cell? ⟨w.heap.size + 1, 4, none⟩ = some (.slice po os.length co) := by rw [hb1.cell (by simp)]; exact two_second w _ _ _ _ _ rfl
        have hs1 : w.heap.size + 2 ≤ w1.heap.size := by have := hb1.size; simp at this; omega
        have HB : Hid (Below w.heap.size w w1) := (two_below w _ _).trans (hb1.mono (by simp; omega))
        clear hb1
        go_wp2_with fail
        refine (C2.out _ HB.out).mono ?_
        rintro e w2 ⟨rfl, hb2⟩
        have x0 : w2.cell? ⟨w.heap.size, 0, none⟩ = some (.int .i64 N) := by rw [hb2.cell (p := ⟨w.heap.size, _, none⟩) (by show w.heap.size < _; omega)]; exact z0
        have x1 : w2.cell? ⟨w.heap.size, 1, none⟩ = some (.int .i64 S) := by rw [hb2.cell (p := ⟨w.heap.size, _, none⟩) (by show w.heap.size < _; omega)]; exact z1
        have x4 : w2.cell? ⟨w.heap.size + 1, 4, none⟩ = some (.slice po os.length co) := by rw [hb2.cell (p := ⟨w.heap.size + 1, _, none⟩) (by show w.heap.size + 1 < _; omega)]; exact y4
        have z2' : w2.cell? ⟨w.heap.size, 2, none⟩ = some (.int .i64 R) := by rw [hb2.cell (p := ⟨w.heap.size, _, none⟩) (by show w.heap.size < _; omega)]; exact z2
        have HB2 : Hid (Below w.heap.size w w2) := HB.out.trans (hb2.mono HB.out.size)
        have hs2 : w.heap.size < w2.heap.size := by have := hb2.size; omega
        clear hb2 z0 z1 z2 y0 y1 y4 HB
        have x2 : w2.cell? ⟨w.heap.size, 2, none⟩ = some (.int .i64 R) := z2'
        have CH : Hid (Calls Tryd.prog 37 #[.slice po os.length co, .func (.func 38) #[] #[.pointer (some ⟨w.heap.size, 0, none⟩)]] w2 fun e w' => e = .returned (.bool (!T)) ∧ Below w2.heap.size w2 w') := by
          have := claimHas_any N S R w.heap.size _ os w2 ⟨k1, k2⟩ ⟨by omega, x0, x1, x2⟩ (HO.out.below HB2.out)
          rwa [HT.out] at this
        clear HT
        go_wp2_with fail
        refine CH.out.mono ?_
        rintro e w3 ⟨rfl, hb3⟩
        have HB3 : Hid (Below w.heap.size w w3) := HB2.out.trans (hb3.mono HB2.out.size)
        clear hb3 CH
        cases T
        · have HF : Hid (A = 6) := HA.out.symm
          clear HA
          go_wp2_with fail
          go_ret
          exact ⟨by rw [HF.out]; rfl, HB3.out⟩
        · have HF : Hid (A = 0) := HA.out.symm
          clear HA
          go_wp2_with fail
          go_ret
          exact ⟨by rw [HF.out]; rfl, HB3.out⟩
      · rw [if_neg h2]
        have n1 : ((os.length : Int) != S) = true := bne_iff_ne.2 h2
        clear h2
        go_enter Tryd.func22, Tryd.ntmps22
        go_wp2_with fail
        refine (C1.out _).mono ?_
        rintro e w1 ⟨rfl, hb1⟩
        have z1 : w1.cell? ⟨w.heap.size, 1, none⟩ = some (.int .i64 S) := by rw [hb1.cell (by simp; omega)]; exact two_first w _ _ _ _ _ rfl
        have y0 : w1.cell? ⟨w.heap.size + 1, 0, none⟩ = some (.string nm) := by rw [hb1.cell (by simp)]; exact two_second w _ _ _ _ _ rfl
        have y1 : w1.cell? ⟨w.heap.size + 1, 1, none⟩ = some (.slice pc mc cc) := by rw [hb1.cell (by simp)]; exact two_second w _ _ _ _ _ rfl
        have y4 : w1.cell? ⟨w.heap.size + 1, 4, none⟩ = some (.slice po os.length co) := by rw [hb1.cell (by simp)]; exact two_second w _ _ _ _ _ rfl
        have hs1 : w.heap.size + 2 ≤ w1.heap.size := by have := hb1.size; simp at this; omega
        have HB : Hid (Below w.heap.size w w1) := (two_below w _ _).trans (hb1.mono (by simp; omega))
        clear hb1
        go_wp2_with fail
        refine (C2.out _ HB.out).mono ?_
        rintro e w2 ⟨rfl, hb2⟩
        have x1 : w2.cell? ⟨w.heap.size, 1, none⟩ = some (.int .i64 S) := by rw [hb2.cell (p := ⟨w.heap.size, _, none⟩) (by show w.heap.size < _; omega)]; exact z1
        have x4 : w2.cell? ⟨w.heap.size + 1, 4, none⟩ = some (.slice po os.length co) := by rw [hb2.cell (p := ⟨w.heap.size + 1, _, none⟩) (by show w.heap.size + 1 < _; omega)]; exact y4
        have HB2 : Hid (Below w.heap.size w w2) := HB.out.trans (hb2.mono HB.out.size)
        clear hb2 z1 y0 y1 y4 HB
        go_wp2_with fail
        go_ret
        exact ⟨rfl, HB2.out⟩
    · rw [if_neg h1]
      have n1 : (E != 0) = true := bne_iff_ne.2 h1
      clear h1
      go_enter Tryd.func22, Tryd.ntmps22
      go_wp2_with fail
      refine (C1.out _).mono ?_
      rintro e w1 ⟨rfl, hb1⟩
      have y0 : w1.cell? ⟨w.heap.size + 1, 0, none⟩ = some (.string nm) := by rw [hb1.cell (by simp)]; exact two_second w _ _ _ _ _ rfl
      have y1 : w1.cell? ⟨w.heap.size + 1, 1, none⟩ = some (.slice pc mc cc) := by rw [hb1.cell (by simp)]; exact two_second w _ _ _ _ _ rfl
      have HB : Hid (Below w.heap.size w w1) := (two_below w _ _).trans (hb1.mono (by simp; omega))
      clear hb1
      go_wp2_with fail
      refine (C2.out _ HB.out).mono ?_
      rintro e w2 ⟨rfl, hb2⟩
      have HB2 : Hid (Below w.heap.size w w2) := HB.out.trans (hb2.mono HB.out.size)
      clear hb2
      go_wp2_with fail
      go_ret
      exact ⟨rfl, HB2.out⟩
  · have C1 : Hid (∀ W, Calls Tryd.prog 18 #[.agg #[.int .i64 N, .int .i64 S, .int .i64 R]] W fun e w' => e = .returned (.int .i64 2) ∧ Below W.heap.size W w') := fun W => by rw [← layE_two h0]; exact layCheck_any N S R W
    have e : claimE N S R nm cs os = 2 := by unfold claimE; rw [if_neg h0]
    rw [e]
    clear e h0
    go_enter Tryd.func22, Tryd.ntmps22
    go_wp2_with fail
    refine (C1.out _).mono ?_
    rintro e w1 ⟨rfl, hb1⟩
    have HB : Hid (Below w.heap.size w w1) := (two_below w _ _).trans (hb1.mono (by simp; omega))
    clear hb1
    go_wp2_with fail
    go_ret
    exact ⟨rfl, HB.out⟩
end Go.Proofs.YthfoijnjgdeaaaaDoor
