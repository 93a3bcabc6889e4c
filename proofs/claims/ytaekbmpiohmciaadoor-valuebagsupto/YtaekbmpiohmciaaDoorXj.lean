/- What the reference's SameBag answers. -/
import Derived.Test.YtaekbmpiohmciaaDoorXi
namespace Go.Proofs.YtaekbmpiohmciaaDoor
open Go.Shelf Go.RowKit Go.Lib Go.Sort
set_option linter.unusedVariables false
set_option linter.unusedSimpArgs false
attribute [local go_sem ↓] Go.wp_at_zero Go.wp_at_succ
/-- How often a row is there. -/
def cnt (r : List Val) (xs : List (List Val)) : Nat := xs.countP (sameR r)
theorem cnt_self (r : List Val) : sameR r r = true := (sameR_iff r r).2 rfl
theorem cnt_cons (r x : List Val) (xs : List (List Val)) : cnt r (x :: xs) = cnt r xs + if sameR r x = true then 1 else 0 := by simp [cnt, List.countP_cons]
theorem cnt_append (r : List Val) (xs ys : List (List Val)) : cnt r (xs ++ ys) = cnt r xs + cnt r ys := by simp [cnt]
theorem cnt_perm {r : List Val} {xs ys : List (List Val)} (h : xs.Perm ys) : cnt r xs = cnt r ys := h.countP_eq _
theorem cnt_le (r : List Val) (xs : List (List Val)) : cnt r xs ≤ xs.length := List.countP_le_length
theorem cnt_take (r : List Val) (xs : List (List Val)) (k : Nat) (h : k < xs.length) : cnt r (xs.take (k + 1)) = cnt r (xs.take k) + if sameR r xs[k] = true then 1 else 0 := by
  rw [List.take_succ_eq_append_getElem h, cnt_append, cnt_cons]
  simp [cnt]
theorem perm_of_cnt : ∀ a b : List (List Val), a.length = b.length → (∀ r ∈ a, cnt r a = cnt r b) → a.Perm b
  | [], b, hl, _ => by
    have : b = [] := List.eq_nil_of_length_eq_zero (by simpa using hl.symm)
    rw [this]
  | x :: a, b, hl, h => by
    have h0 := h x (by simp)
    rw [cnt_cons, cnt_self] at h0
    have hpos : 0 < b.countP (sameR x) := by
      show 0 < cnt x b
      rw [← h0]; simp
    obtain ⟨y, hy, hyx⟩ := List.countP_pos_iff.1 hpos
    have e := (sameR_iff x y).1 hyx
    subst e
    obtain ⟨b1, b2, rfl⟩ := List.append_of_mem hy
    have hp : (b1 ++ x :: b2).Perm (x :: (b1 ++ b2)) := List.perm_middle
    refine (List.Perm.cons x (perm_of_cnt a (b1 ++ b2) ?_ ?_)).trans hp.symm
    · have := hp.length_eq
      simp at hl this ⊢
      omega
    · intro r hr
      have := h r (by simp [hr])
      rw [cnt_perm hp, cnt_cons, cnt_cons] at this
      omega
set_option maxRecDepth 100000 in
set_option maxHeartbeats 8000000 in
theorem refBag_any (v1 v2 : Value) (xs ys : List (List Val)) (w : World) (h1 : RowsL w v1 xs) (h2 : RowsL w v2 ys) (hl : xs.length * 24 ≤ 140737488355328) (T : Bool) (hT : T = true ↔ xs.Perm ys) :
    Calls Tryd.prog 35 #[v1, v2] w fun e w' => e = .returned (.bool T) ∧ Below w.heap.size w w' := by
  obtain ⟨p, c, rfl, hl1, hp⟩ := h1
  obtain ⟨q, d, rfl, hl2, hq⟩ := h2
  have HP : Hid (0 < xs.length → ∃ b o, p = some ⟨b, o, none⟩ ∧ b < w.heap.size ∧ ∀ j (h : j < xs.length), ∃ u, w.cell? ⟨b, o + j, none⟩ = some u ∧ RowV w u xs[j]) := hp
  have HQ : Hid (0 < ys.length → ∃ b o, q = some ⟨b, o, none⟩ ∧ b < w.heap.size ∧ ∀ j (h : j < ys.length), ∃ u, w.cell? ⟨b, o + j, none⟩ = some u ∧ RowV w u ys[j]) := hq
  clear hp hq
  by_cases hlen : xs.length = ys.length
  · have HL : Hid (xs.length = ys.length) := hlen
    have hne : ((xs.length : Int) != (ys.length : Int)) = false := by rw [hlen]; simp
    have HT : Hid (T = true ↔ ∀ j (h : j < xs.length), cnt xs[j] xs = cnt xs[j] ys) := by
      show _ ↔ _
      rw [hT]
      constructor
      · intro hp j hj
        exact cnt_perm hp
      · intro hc
        refine perm_of_cnt xs ys hlen fun r hr => ?_
        obtain ⟨j, hj, rfl⟩ := List.getElem_of_mem hr
        exact hc j hj
    clear hT hlen
    go_enter Tryd.func35, Tryd.ntmps35
    go_wp2_with fail
    go_loopg [19] xs.length (fun gf s19 wx => ∃ i : Nat, s19 = .int .i64 i ∧ Hid (Below w.heap.size w wx) ∧ i ≤ xs.length ∧ xs.length ≤ i + gf ∧ Hid (∀ j (h : j < xs.length), j < i → cnt xs[j] xs = cnt xs[j] ys))
    case atStart => exact ⟨0, rfl, Below.refl _ _, by omega, by omega, fun j _ h => by omega⟩
    case round =>
      obtain ⟨i, rfl, HB, hi1, hgf, HC⟩ := hrel
      by_cases hi : i < xs.length
      · obtain ⟨g', rfl⟩ : ∃ g', gk = g' + 1 := ⟨gk - 1, by omega⟩
        obtain ⟨b1, o1, rfl, hB1, hr1⟩ := HP.out (by omega)
        obtain ⟨b2, o2, rfl, hB2, hr2⟩ := HQ.out (by have := HL.out; omega)
        obtain ⟨u, x0, x1⟩ := hr1 i hi
        rw [← HB.out.cell (p := ⟨b1, _, none⟩) hB1] at x0
        obtain ⟨r, hr⟩ : ∃ r, xs[i] = r := ⟨_, rfl⟩
        have HRr : Hid (xs[i] = r) := hr
        rw [hr] at x1
        have HU : Hid (RowV w u r) := x1
        obtain ⟨pu, nu, cu, rfl⟩ := x1.slice
        have HR1 : Hid (∀ j (h : j < xs.length), ∃ u, w.cell? ⟨b1, o1 + j, none⟩ = some u ∧ RowV w u xs[j]) := hr1
        have HR2 : Hid (∀ j (h : j < ys.length), ∃ u, w.cell? ⟨b2, o2 + j, none⟩ = some u ∧ RowV w u ys[j]) := hr2
        have hz0 : (0 : Int) ≤ (i : Int) := by omega
        have hz1 : (i : Int) < (xs.length : Int) := by omega
        clear hr hr1 hr2 x1 HP HQ
        obtain ⟨V0, hV0⟩ : ∃ V0 : World, V0 = wr := ⟨_, rfl⟩
        subst hV0
        go_wp2_with fail
        go_loopg [7, 25] xs.length (fun gf s7 s25 wx => ∃ k n : Nat, s7 = .int .i64 n ∧ s25 = .int .i64 k ∧ Hid (Below w.heap.size w wx) ∧ k ≤ xs.length ∧ xs.length ≤ k + gf ∧ n ≤ k ∧ Hid (n = cnt r (xs.take k)))
        case atStart => exact ⟨0, 0, rfl, rfl, HB, by omega, by omega, by omega, (show _ = _ by simp [cnt])⟩
        case round =>
          clear HB x0 hz1 hz0
          obtain ⟨k, n, rfl, rfl, HB, hk1, hkf, hnk, HN⟩ := hrel
          by_cases hk : k < xs.length
          · skip
            obtain ⟨g2, rfl⟩ : ∃ g2, gk = g2 + 1 := ⟨gk - 1, by omega⟩
            obtain ⟨u2, y0, y1⟩ := HR1.out k hk
            rw [← HB.out.cell (p := ⟨b1, _, none⟩) hB1] at y0
            have CS : Hid (∀ W, Below w.heap.size w W → Calls Tryd.prog 55 #[.slice pu nu cu, u2] W fun e w' => e = .returned (.bool (sameR r xs[k])) ∧ Below W.heap.size W w') := fun W h => sameRow_any _ _ _ _ W (HU.out.below h) (y1.below h)
            obtain ⟨p2, n2, c2, rfl⟩ := y1.slice
            have hz0 : (0 : Int) ≤ (k : Int) := by omega
            have hz1 : (k : Int) < (xs.length : Int) := by omega
            have htk := cnt_take r xs k hk
            rw [← HN.out] at htk
            clear y1 HN
            cases hs : sameR r xs[k]
            · rw [hs] at CS htk
              have HN : Hid (n = cnt r (xs.take (k + 1))) := (show _ = _ by simpa using htk.symm)
              clear htk hs
              go_wp2_with fail
              refine (CS.out _ HB.out).mono ?_
              rintro e w2 ⟨rfl, hb2⟩
              have HB2 : Hid (Below w.heap.size w w2) := HB.out.trans (hb2.mono HB.out.size)
              clear hb2
              go_wp2_with fail
              go_roundg g2
              case measure => omega
              case rel => exact ⟨k + 1, n, rfl, by go_num, HB2, by omega, by omega, by omega, HN⟩
            · rw [hs] at CS htk
              have HN : Hid (n + 1 = cnt r (xs.take (k + 1))) := (show _ = _ by simpa using htk.symm)
              clear htk hs
              go_wp2_with fail
              refine (CS.out _ HB.out).mono ?_
              rintro e w2 ⟨rfl, hb2⟩
              have HB2 : Hid (Below w.heap.size w w2) := HB.out.trans (hb2.mono HB.out.size)
              clear hb2
              go_wp2_with fail
              go_roundg g2
              case measure => omega
              case rel => exact ⟨k + 1, n + 1, by go_num, by go_num, HB2, by omega, by omega, by omega, HN⟩
          · have hkend : k = xs.length := by omega
            have HN2 : Hid (n = cnt r xs) := by show _ = _; rw [HN.out, hkend, List.take_length]
            have hz1 : ¬ (k : Int) < (xs.length : Int) := by omega
            clear HN
            obtain ⟨V1, hV1⟩ : ∃ V1 : World, V1 = wr := ⟨_, rfl⟩
            subst hV1
            go_wp2_with fail
            go_loopg [7, 37] ys.length (fun gf s7 s37 wx => ∃ (k : Nat) (m : Int), s7 = .int .i64 m ∧ s37 = .int .i64 k ∧ Hid (Below w.heap.size w wx) ∧ k ≤ ys.length ∧ ys.length ≤ k + gf ∧ m ≤ n ∧ - (k : Int) ≤ m ∧ Hid (m = (n : Int) - (cnt r (ys.take k) : Int)))
            case atStart => exact ⟨0, n, rfl, rfl, HB, by omega, by omega, by omega, by omega, (show _ = _ by simp [cnt])⟩
            case round =>
              clear HB hz1
              obtain ⟨k, m, rfl, rfl, HB, hk1, hkf, hm1, hm2, HM⟩ := hrel
              by_cases hk : k < ys.length
              · skip
                obtain ⟨g2, rfl⟩ : ∃ g2, gk = g2 + 1 := ⟨gk - 1, by omega⟩
                obtain ⟨u2, y0, y1⟩ := HR2.out k hk
                rw [← HB.out.cell (p := ⟨b2, _, none⟩) hB2] at y0
                have CS : Hid (∀ W, Below w.heap.size w W → Calls Tryd.prog 55 #[.slice pu nu cu, u2] W fun e w' => e = .returned (.bool (sameR r ys[k])) ∧ Below W.heap.size W w') := fun W h => sameRow_any _ _ _ _ W (HU.out.below h) (y1.below h)
                obtain ⟨p2, n2, c2, rfl⟩ := y1.slice
                have hz0 : (0 : Int) ≤ (k : Int) := by omega
                have hz1 : (k : Int) < (ys.length : Int) := by omega
                have htk := cnt_take r ys k hk
                have hm := HM.out
                clear y1 HM
                cases hs : sameR r ys[k]
                · rw [hs] at CS htk
                  have HN : Hid (m = (n : Int) - (cnt r (ys.take (k + 1)) : Int)) := by
                    show _ = _
                    rw [htk]; simp; exact hm
                  clear htk hs hm
                  go_wp2_with fail
                  refine (CS.out _ HB.out).mono ?_
                  rintro e w2 ⟨rfl, hb2⟩
                  have HB2 : Hid (Below w.heap.size w w2) := HB.out.trans (hb2.mono HB.out.size)
                  clear hb2
                  go_wp2_with fail
                  go_roundg g2
                  case measure => omega
                  case rel => exact ⟨k + 1, m, rfl, by go_num, HB2, by omega, by omega, by omega, by omega, HN⟩
                · rw [hs] at CS htk
                  have HN : Hid (m - 1 = (n : Int) - (cnt r (ys.take (k + 1)) : Int)) := by
                    show _ = _
                    rw [htk]; simp; omega
                  have hw : IntKind.i64.wrap (m - 1) = m - 1 := by rw [IntKind.wrap_i64]; omega
                  clear htk hs hm
                  go_wp2_with fail
                  refine (CS.out _ HB.out).mono ?_
                  rintro e w2 ⟨rfl, hb2⟩
                  have HB2 : Hid (Below w.heap.size w w2) := HB.out.trans (hb2.mono HB.out.size)
                  clear hb2
                  go_wp2_with fail
                  go_roundg g2
                  case measure => omega
                  case rel => exact ⟨k + 1, m - 1, rfl, by go_num, HB2, by omega, by omega, by omega, by omega, HN⟩
              · have hkend2 : k = ys.length := by omega
                have HM2 : Hid (m = (cnt r xs : Int) - (cnt r ys : Int)) := by
                  show _ = _
                  rw [HM.out, hkend2, List.take_length, ← HN2.out]
                have hz1 : ¬ (k : Int) < (ys.length : Int) := by omega
                clear HM
                by_cases hm0 : m = 0
                · have hz2 : (m != 0) = false := by rw [hm0]; rfl
                  have HC2 : Hid (∀ j (h : j < xs.length), j < i + 1 → cnt xs[j] xs = cnt xs[j] ys) := fun j hj hji => by
                    by_cases e : j = i
                    · subst e
                      rw [HRr.out]
                      have := HM2.out
                      omega
                    · exact HC.out j hj (by omega)
                  clear HM2 hm0
                  go_wp2_with fail
                  go_roundg g'
                  case measure => omega
                  case rel => exact ⟨i + 1, by go_num, HB, by omega, by omega, HC2⟩
                · have hz2 : (m != 0) = true := bne_iff_ne.2 hm0
                  have HF : Hid (T = false) := by
                    show _ = _
                    cases hTT : T
                    · rfl
                    · have := HT.out.1 hTT i hi
                      rw [HRr.out] at this
                      have h2 := HM2.out
                      omega
                  clear HM2 HT hm0
                  go_wp2_with fail
                  go_ret
                  exact ⟨by rw [HF.out]; rfl, HB.out⟩
      · have HF : Hid (T = true) := HT.out.2 fun j hj => HC.out j hj (by omega)
        have hz1 : ¬ (i : Int) < (xs.length : Int) := by omega
        clear HP HQ HT HC
        go_wp2_with fail
        go_ret
        exact ⟨by rw [HF.out]; rfl, HB.out⟩
  · have hne : ((xs.length : Int) != (ys.length : Int)) = true := by rw [bne_iff_ne]; omega
    have HF : Hid (T = false) := by
      show _ = _
      cases hTT : T
      · rfl
      · exact absurd (hT.1 hTT).length_eq hlen
    clear HP HQ hlen hT
    go_enter Tryd.func35, Tryd.ntmps35
    go_wp2_with fail
    go_ret
    exact ⟨by rw [HF.out]; rfl, Below.refl _ _⟩
end Go.Proofs.YtaekbmpiohmciaaDoor
