/- What the reference's SameRow and Same answer. -/
import Derived.Test.YtaekbmpiohmciaaDoorXa
import Derived.Test.YtaekbmpiohmciaaDoorRc
import Derived.Test.YtaekbmpiohmciaaDoorBagC
namespace Go.Proofs.YtaekbmpiohmciaaDoor
open Go.RowKit Go.Lib Go.Sort
set_option linter.unusedVariables false
set_option linter.unusedSimpArgs false
attribute [local go_sem ↓] Go.wp_at_zero Go.wp_at_succ

theorem RowV.form {w : World} {v : Value} {xs : List Val} (h : RowV w v xs) : ∃ p c, v = .slice p xs.length c ∧ xs.length ≤ 9223372036854775807 ∧ (0 < xs.length → ∃ b o, p = some ⟨b, o, none⟩ ∧ RowIs w b o xs ∧ b < w.heap.size) := by
  obtain ⟨hl, ⟨p, c, rfl, rfl⟩ | ⟨b, o, c, rfl, hr, hb⟩⟩ := h
  · exact ⟨p, c, rfl, by simp, by simp⟩
  · exact ⟨_, c, rfl, hl, fun _ => ⟨b, o, rfl, hr, hb⟩⟩
/-- A list of rows that lies in memory. -/
def RowsL (w : World) (v : Value) (rs : List (List Val)) : Prop :=
  ∃ p c, v = .slice p rs.length c ∧ rs.length ≤ 9223372036854775807 ∧ (0 < rs.length → ∃ b o, p = some ⟨b, o, none⟩ ∧ b < w.heap.size ∧ ∀ j (h : j < rs.length), ∃ u, w.cell? ⟨b, o + j, none⟩ = some u ∧ RowV w u rs[j])
theorem RowsL.below {w W : World} {v : Value} {rs : List (List Val)} (h : RowsL w v rs) (hb : Below w.heap.size w W) : RowsL W v rs := by
  obtain ⟨p, c, rfl, hl, h⟩ := h
  refine ⟨p, c, rfl, hl, fun h0 => ?_⟩
  obtain ⟨b, o, rfl, hlt, hc⟩ := h h0
  refine ⟨b, o, rfl, Nat.lt_of_lt_of_le hlt hb.size, fun j hj => ?_⟩
  obtain ⟨u, h1, h2⟩ := hc j hj
  exact ⟨u, by rw [hb.cell (p := ⟨b, _, none⟩) hlt]; exact h1, h2.below hb⟩

/-- Whether two rows are one. -/
def sameR : List Val → List Val → Bool
  | [], [] => true
  | x :: xs, y :: ys => sameV x y && sameR xs ys
  | _, _ => false
theorem sameR_iff : ∀ xs ys : List Val, sameR xs ys = true ↔ xs = ys
  | [], [] => by simp [sameR]
  | [], _ :: _ => by simp [sameR]
  | _ :: _, [] => by simp [sameR]
  | x :: xs, y :: ys => by
    have ih := sameR_iff xs ys
    have := sameV_iff x y
    simp [sameR, ih, this]
theorem sameR_len (xs ys : List Val) (h : xs.length ≠ ys.length) : sameR xs ys = false := by
  cases e : sameR xs ys
  · rfl
  · rw [(sameR_iff _ _).1 e] at h; exact absurd rfl h
theorem sameR_at (xs ys : List Val) (i : Nat) (hx : i < xs.length) (hy : i < ys.length) : sameR (xs.drop i) (ys.drop i) = (sameV xs[i] ys[i] && sameR (xs.drop (i + 1)) (ys.drop (i + 1))) := by
  rw [List.drop_eq_getElem_cons hx, List.drop_eq_getElem_cons hy]; rfl
def sameRs : List (List Val) → List (List Val) → Bool
  | [], [] => true
  | x :: xs, y :: ys => sameR x y && sameRs xs ys
  | _, _ => false
theorem sameRs_iff : ∀ xs ys : List (List Val), sameRs xs ys = true ↔ xs = ys
  | [], [] => by simp [sameRs]
  | [], _ :: _ => by simp [sameRs]
  | _ :: _, [] => by simp [sameRs]
  | x :: xs, y :: ys => by
    have ih := sameRs_iff xs ys
    have := sameR_iff x y
    simp [sameRs, ih, this]
theorem sameRs_len (xs ys : List (List Val)) (h : xs.length ≠ ys.length) : sameRs xs ys = false := by
  cases e : sameRs xs ys
  · rfl
  · rw [(sameRs_iff _ _).1 e] at h; exact absurd rfl h
theorem sameRs_at (xs ys : List (List Val)) (i : Nat) (hx : i < xs.length) (hy : i < ys.length) : sameRs (xs.drop i) (ys.drop i) = (sameR xs[i] ys[i] && sameRs (xs.drop (i + 1)) (ys.drop (i + 1))) := by
  rw [List.drop_eq_getElem_cons hx, List.drop_eq_getElem_cons hy]; rfl

set_option maxRecDepth 100000 in
set_option maxHeartbeats 4000000 in
theorem sameRow_any (v1 v2 : Value) (xs ys : List Val) (w : World) (h1 : RowV w v1 xs) (h2 : RowV w v2 ys) :
    Calls Tryd.prog 55 #[v1, v2] w fun e w' => e = .returned (.bool (sameR xs ys)) ∧ Below w.heap.size w w' := by
  obtain ⟨p, c, rfl, hl1, hp⟩ := h1.form
  obtain ⟨q, d, rfl, hl2, hq⟩ := h2.form
  have HP : Hid (0 < xs.length → ∃ b o, p = some ⟨b, o, none⟩ ∧ RowIs w b o xs ∧ b < w.heap.size) := hp
  have HQ : Hid (0 < ys.length → ∃ b o, q = some ⟨b, o, none⟩ ∧ RowIs w b o ys ∧ b < w.heap.size) := hq
  clear hp hq h1 h2
  by_cases hlen : xs.length = ys.length
  · obtain ⟨T, hT⟩ : ∃ T, sameR xs ys = T := ⟨_, rfl⟩
    have HT : Hid (sameR xs ys = T) := hT
    have HL : Hid (xs.length = ys.length) := hlen
    have hne : ((xs.length : Int) != (ys.length : Int)) = false := by rw [hlen]; simp
    rw [hT]
    clear hT hlen
    go_enter Tryd.func55, Tryd.ntmps55
    go_wp2_with fail
    go_loopg [13] xs.length (fun gf s13 wx => ∃ i : Nat, s13 = .int .i64 i ∧ Below w.heap.size w wx ∧ i ≤ xs.length ∧ xs.length ≤ i + gf ∧ Hid (sameR (xs.drop i) (ys.drop i) = T))
    case atStart => exact ⟨0, rfl, Below.refl _ _, by omega, by omega, HT⟩
    case round =>
      clear HT
      obtain ⟨i, rfl, hbw, hi1, hgf, HT⟩ := hrel
      by_cases hi : i < xs.length
      · obtain ⟨g', rfl⟩ : ∃ g', gk = g' + 1 := ⟨gk - 1, by omega⟩
        have hiy : i < ys.length := by rw [← HL.out]; exact hi
        obtain ⟨b1, o1, rfl, hr1, hB1⟩ := HP.out (by omega)
        obtain ⟨b2, o2, rfl, hr2, hB2⟩ := HQ.out (by omega)
        obtain ⟨x0, x1, x2, x3⟩ := hr1 i hi
        obtain ⟨y0, y1, y2, y3⟩ := hr2 i hiy
        rw [← hbw.cell (p := ⟨b1, _, none⟩) hB1] at x0 x1 x2 x3
        rw [← hbw.cell (p := ⟨b2, _, none⟩) hB2] at y0 y1 y2 y3
        have hat := sameR_at xs ys i hi hiy
        rw [HT.out] at hat
        obtain ⟨⟨xk, xb, xn, xsx⟩, hxv⟩ : ∃ v, xs[i] = v := ⟨_, rfl⟩
        obtain ⟨⟨yk, yb, yn, ysx⟩, hyv⟩ : ∃ v, ys[i] = v := ⟨_, rfl⟩
        rw [hxv] at x0 x1 x2 x3
        rw [hyv] at y0 y1 y2 y3
        rw [hxv, hyv] at hat
        simp only at x0 x1 x2 x3 y0 y1 y2 y3
        have hq := fun W => neq_core xk yk xb yb xn yn xsx ysx W
        have hz0 : (0 : Int) ≤ (i : Int) := by omega
        have hz1 : (i : Int) < (xs.length : Int) := by omega
        have hz2 : (i : Int) < (ys.length : Int) := by omega
        clear hr1 hr2 HP HQ hxv hyv HT
        cases hs : sameV ⟨xk, xb, xn, xsx⟩ ⟨yk, yb, yn, ysx⟩
        · rw [hs] at hq hat
          have HA : Hid (T = false) := (show _ = _ by simpa using hat)
          clear hat hs
          simp only [Bool.not_false] at hq
          go_wp2_with fail
          go_quiet (fail)
          go_wp2_with fail
          go_ret
          exact ⟨by rw [HA.out]; rfl, below_drewN hbw _⟩
        · rw [hs] at hq hat
          have HA : Hid (sameR (xs.drop (i + 1)) (ys.drop (i + 1)) = T) := (show _ = _ by simpa using hat.symm)
          clear hat hs
          simp only [Bool.not_true] at hq
          go_wp2_with fail
          go_quiet (fail)
          go_wp2_with fail
          go_roundg g'
          case measure => omega
          case rel => exact ⟨i + 1, by go_num, below_drewN hbw _, by omega, by omega, HA⟩
      · have hend : i = xs.length := by omega
        have HA : Hid (T = true) := by
          show _ = _
          rw [← HT.out, hend, List.drop_length, HL.out, List.drop_length]; rfl
        subst hend
        clear HP HQ HT HL
        go_wp2_with fail
        go_ret
        exact ⟨by rw [HA.out]; rfl, hbw⟩
  · have hne : ((xs.length : Int) != (ys.length : Int)) = true := by rw [bne_iff_ne]; omega
    rw [sameR_len xs ys hlen]
    clear HP HQ hlen
    go_enter Tryd.func55, Tryd.ntmps55
    go_wp2_with fail
    go_ret
    exact ⟨rfl, Below.refl _ _⟩

set_option maxRecDepth 100000 in
set_option maxHeartbeats 4000000 in
theorem same_any (v1 v2 : Value) (xs ys : List (List Val)) (w : World) (h1 : RowsL w v1 xs) (h2 : RowsL w v2 ys) :
    Calls Tryd.prog 31 #[v1, v2] w fun e w' => e = .returned (.bool (sameRs xs ys)) ∧ Below w.heap.size w w' := by
  obtain ⟨p, c, rfl, hl1, hp⟩ := h1
  obtain ⟨q, d, rfl, hl2, hq⟩ := h2
  have HP : Hid (0 < xs.length → ∃ b o, p = some ⟨b, o, none⟩ ∧ b < w.heap.size ∧ ∀ j (h : j < xs.length), ∃ u, w.cell? ⟨b, o + j, none⟩ = some u ∧ RowV w u xs[j]) := hp
  have HQ : Hid (0 < ys.length → ∃ b o, q = some ⟨b, o, none⟩ ∧ b < w.heap.size ∧ ∀ j (h : j < ys.length), ∃ u, w.cell? ⟨b, o + j, none⟩ = some u ∧ RowV w u ys[j]) := hq
  clear hp hq
  by_cases hlen : xs.length = ys.length
  · obtain ⟨T, hT⟩ : ∃ T, sameRs xs ys = T := ⟨_, rfl⟩
    have HT : Hid (sameRs xs ys = T) := hT
    have HL : Hid (xs.length = ys.length) := hlen
    have hne : ((xs.length : Int) != (ys.length : Int)) = false := by rw [hlen]; simp
    rw [hT]
    clear hT hlen
    go_enter Tryd.func31, Tryd.ntmps31
    go_wp2_with fail
    go_loopg [13] xs.length (fun gf s13 wx => ∃ i : Nat, s13 = .int .i64 i ∧ Below w.heap.size w wx ∧ i ≤ xs.length ∧ xs.length ≤ i + gf ∧ Hid (sameRs (xs.drop i) (ys.drop i) = T))
    case atStart => exact ⟨0, rfl, Below.refl _ _, by omega, by omega, HT⟩
    case round =>
      clear HT
      obtain ⟨i, rfl, hbw, hi1, hgf, HT⟩ := hrel
      by_cases hi : i < xs.length
      · obtain ⟨g', rfl⟩ : ∃ g', gk = g' + 1 := ⟨gk - 1, by omega⟩
        have hiy : i < ys.length := by rw [← HL.out]; exact hi
        obtain ⟨b1, o1, rfl, hB1, hr1⟩ := HP.out (by omega)
        obtain ⟨b2, o2, rfl, hB2, hr2⟩ := HQ.out (by omega)
        obtain ⟨u1, x0, x1⟩ := hr1 i hi
        obtain ⟨u2, y0, y1⟩ := hr2 i hiy
        rw [← hbw.cell (p := ⟨b1, _, none⟩) hB1] at x0
        rw [← hbw.cell (p := ⟨b2, _, none⟩) hB2] at y0
        have hat := sameRs_at xs ys i hi hiy
        rw [HT.out] at hat
        have cS : Hid (∀ p : LaterS wr.heap.size wr, Calls Tryd.prog 55 #[u1, u2] p.w fun e w' => e = .returned (.bool (sameR xs[i] ys[i])) ∧ Below p.w.heap.size p.w w') := fun p =>
          sameRow_any u1 u2 xs[i] ys[i] p.w (x1.below (hbw.trans (p.h.mono hbw.size))) (y1.below (hbw.trans (p.h.mono hbw.size)))
        obtain ⟨p1, n1, c1, rfl⟩ := x1.slice
        obtain ⟨p2, n2, c2, rfl⟩ := y1.slice
        have hb1r : b1 < wr.heap.size := Nat.lt_of_lt_of_le hB1 hbw.size
        have hb2r : b2 < wr.heap.size := Nat.lt_of_lt_of_le hB2 hbw.size
        have px : ∀ p : LaterS wr.heap.size wr, p.w.cell? ⟨b1, o1 + i, none⟩ = some (.slice p1 n1 c1) := fun p => by rw [p.h.cell hb1r]; exact x0
        have py : ∀ p : LaterS wr.heap.size wr, p.w.cell? ⟨b2, o2 + i, none⟩ = some (.slice p2 n2 c2) := fun p => by rw [p.h.cell hb2r]; exact y0
        have hz0 : (0 : Int) ≤ (i : Int) := by omega
        have hz1 : (i : Int) < (xs.length : Int) := by omega
        have hz2 : (i : Int) < (ys.length : Int) := by omega
        clear hr1 hr2 HP HQ HT x0 y0 x1 y1
        cases hs : sameR xs[i] ys[i]
        · rw [hs] at cS hat
          have HA : Hid (T = false) := (show _ = _ by simpa using hat)
          clear hat hs
          go_wp2_with fail
          have inhL := laterInh
          refine wp_region_laterS mixedOnS (by kernel_rfl) ?_
          repeat (go_big_quiet_step ((go_at_call 55; exact calls_laterS (cS.out _))))
          refine wpQuiet_nil ?_
          intro w2 hw'
          obtain ⟨⟨wq, hwq⟩, hw''⟩ := hw'
          subst hw''
          go_wp2_with fail
          go_ret
          exact ⟨by rw [HA.out]; rfl, hbw.trans (hwq.mono hbw.size)⟩
        · rw [hs] at cS hat
          have HA : Hid (sameRs (xs.drop (i + 1)) (ys.drop (i + 1)) = T) := (show _ = _ by simpa using hat.symm)
          clear hat hs
          go_wp2_with fail
          have inhL := laterInh
          refine wp_region_laterS mixedOnS (by kernel_rfl) ?_
          repeat (go_big_quiet_step ((go_at_call 55; exact calls_laterS (cS.out _))))
          refine wpQuiet_nil ?_
          intro w2 hw'
          obtain ⟨⟨wq, hwq⟩, hw''⟩ := hw'
          subst hw''
          go_wp2_with fail
          go_roundg g'
          case measure => omega
          case rel => exact ⟨i + 1, by go_num, hbw.trans (hwq.mono hbw.size), by omega, by omega, HA⟩
      · have hend : i = xs.length := by omega
        have HA : Hid (T = true) := by
          show _ = _
          rw [← HT.out, hend, List.drop_length, HL.out, List.drop_length]; rfl
        subst hend
        clear HP HQ HT HL
        go_wp2_with fail
        go_ret
        exact ⟨by rw [HA.out]; rfl, hbw⟩
  · have hne : ((xs.length : Int) != (ys.length : Int)) = true := by rw [bne_iff_ne]; omega
    rw [sameRs_len xs ys hlen]
    clear HP HQ hlen
    go_enter Tryd.func31, Tryd.ntmps31
    go_wp2_with fail
    go_ret
    exact ⟨rfl, Below.refl _ _⟩
end Go.Proofs.YtaekbmpiohmciaaDoor
