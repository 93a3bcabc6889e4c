/- Rows that are copied and held against each other by the reference: as at the seat of the values. -/
import Derived.Test.YthfoijnjgdeaaabDoorXc
namespace Go.Proofs.YthfoijnjgdeaaabDoor
open Go.Shelf Go.RowKit Go.Lib Go.Sort
set_option linter.unusedVariables false
set_option linter.unusedSimpArgs false
attribute [local go_sem ↓] Go.wp_at_zero Go.wp_at_succ
/-- Whether two rows are one. -/
def sameR : List Val → List Val → Bool
  | [], [] => true
  | x :: xs, y :: ys => sameV x y && sameR xs ys
  | _, _ => false
theorem sameR_iff : ∀ xs ys : List Val, sameR xs ys = true ↔ xs = ys
  | [], [] => by simp [sameR]
  | [], _ :: _ => by simp [sameR]
  | _ :: _, [] => by simp [sameR]
  | x :: xs, y :: ys => by
    have ih := sameR_iff xs ys
    have := sameV_iff x y
    simp [sameR, ih, this]
theorem sameR_len (xs ys : List Val) (h : xs.length ≠ ys.length) : sameR xs ys = false := by
  cases e : sameR xs ys
  · rfl
  · rw [(sameR_iff _ _).1 e] at h; exact absurd rfl h
theorem sameR_at (xs ys : List Val) (i : Nat) (hx : i < xs.length) (hy : i < ys.length) : sameR (xs.drop i) (ys.drop i) = (sameV xs[i] ys[i] && sameR (xs.drop (i + 1)) (ys.drop (i + 1))) := by
  rw [List.drop_eq_getElem_cons hx, List.drop_eq_getElem_cons hy]; rfl
def sameRs : List (List Val) → List (List Val) → Bool
  | [], [] => true
  | x :: xs, y :: ys => sameR x y && sameRs xs ys
  | _, _ => false
theorem sameRs_iff : ∀ xs ys : List (List Val), sameRs xs ys = true ↔ xs = ys
  | [], [] => by simp [sameRs]
  | [], _ :: _ => by simp [sameRs]
  | _ :: _, [] => by simp [sameRs]
  | x :: xs, y :: ys => by
    have ih := sameRs_iff xs ys
    have := sameR_iff x y
    simp [sameRs, ih, this]
theorem sameRs_len (xs ys : List (List Val)) (h : xs.length ≠ ys.length) : sameRs xs ys = false := by
  cases e : sameRs xs ys
  · rfl
  · rw [(sameRs_iff _ _).1 e] at h; exact absurd rfl h
theorem sameRs_at (xs ys : List (List Val)) (i : Nat) (hx : i < xs.length) (hy : i < ys.length) : sameRs (xs.drop i) (ys.drop i) = (sameR xs[i] ys[i] && sameRs (xs.drop (i + 1)) (ys.drop (i + 1))) := by
  rw [List.drop_eq_getElem_cons hx, List.drop_eq_getElem_cons hy]; rfl

set_option maxRecDepth 100000 in
set_option maxHeartbeats 4000000 in
theorem sameRow_any (v1 v2 : Value) (xs ys : List Val) (w : World) (h1 : RowV w v1 xs) (h2 : RowV w v2 ys) :
    Calls Tryd.prog 15 #[v1, v2] w fun e w' => e = .returned (.bool (sameR xs ys)) ∧ Below w.heap.size w w' := by
  obtain ⟨p, c, rfl, hl1, hp⟩ := h1.form
  obtain ⟨q, d, rfl, hl2, hq⟩ := h2.form
  have HP : Hid (0 < xs.length → ∃ b o, p = some ⟨b, o, none⟩ ∧ RowIs w b o xs ∧ b < w.heap.size) := hp
  have HQ : Hid (0 < ys.length → ∃ b o, q = some ⟨b, o, none⟩ ∧ RowIs w b o ys ∧ b < w.heap.size) := hq
  clear hp hq h1 h2
  by_cases hlen : xs.length = ys.length
  · obtain ⟨T, hT⟩ : ∃ T, sameR xs ys = T := ⟨_, rfl⟩
    have HT : Hid (sameR xs ys = T) := hT
    have HL : Hid (xs.length = ys.length) := hlen
    have hne : ((xs.length : Int) != (ys.length : Int)) = false := by rw [hlen]; simp
    rw [hT]
    clear hT hlen
    go_enter Tryd.func15, Tryd.ntmps15
    go_wp2_with fail
    go_loopg [13] xs.length (fun gf s13 wx => ∃ i : Nat, s13 = .int .i64 i ∧ Below w.heap.size w wx ∧ i ≤ xs.length ∧ xs.length ≤ i + gf ∧ Hid (sameR (xs.drop i) (ys.drop i) = T))
    case atStart => exact ⟨0, rfl, Below.refl _ _, by omega, by omega, HT⟩
    case round =>
      clear HT
      obtain ⟨i, rfl, hbw, hi1, hgf, HT⟩ := hrel
      by_cases hi : i < xs.length
      · obtain ⟨g', rfl⟩ : ∃ g', gk = g' + 1 := ⟨gk - 1, by omega⟩
        have hiy : i < ys.length := by rw [← HL.out]; exact hi
        obtain ⟨b1, o1, rfl, hr1, hB1⟩ := HP.out (by omega)
        obtain ⟨b2, o2, rfl, hr2, hB2⟩ := HQ.out (by omega)
        obtain ⟨x0, x1, x2, x3⟩ := hr1 i hi
        obtain ⟨y0, y1, y2, y3⟩ := hr2 i hiy
        rw [← hbw.cell (p := ⟨b1, _, none⟩) hB1] at x0 x1 x2 x3
        rw [← hbw.cell (p := ⟨b2, _, none⟩) hB2] at y0 y1 y2 y3
        have hat := sameR_at xs ys i hi hiy
        rw [HT.out] at hat
        obtain ⟨⟨xk, xb, xn, xsx⟩, hxv⟩ : ∃ v, xs[i] = v := ⟨_, rfl⟩
        obtain ⟨⟨yk, yb, yn, ysx⟩, hyv⟩ : ∃ v, ys[i] = v := ⟨_, rfl⟩
        rw [hxv] at x0 x1 x2 x3
        rw [hyv] at y0 y1 y2 y3
        rw [hxv, hyv] at hat
        simp only at x0 x1 x2 x3 y0 y1 y2 y3
        have hq := fun W => neq_core xk yk xb yb xn yn xsx ysx W
        have hz0 : (0 : Int) ≤ (i : Int) := by omega
        have hz1 : (i : Int) < (xs.length : Int) := by omega
        have hz2 : (i : Int) < (ys.length : Int) := by omega
        clear hr1 hr2 HP HQ hxv hyv HT
        cases hs : sameV ⟨xk, xb, xn, xsx⟩ ⟨yk, yb, yn, ysx⟩
        · rw [hs] at hq hat
          have HA : Hid (T = false) := (show _ = _ by simpa using hat)
          clear hat hs
          simp only [Bool.not_false] at hq
          go_wp2_with fail
          go_quiet (fail)
          go_wp2_with fail
          go_ret
          exact ⟨by rw [HA.out]; rfl, below_drewN hbw _⟩
        · rw [hs] at hq hat
          have HA : Hid (sameR (xs.drop (i + 1)) (ys.drop (i + 1)) = T) := (show _ = _ by simpa using hat.symm)
          clear hat hs
          simp only [Bool.not_true] at hq
          go_wp2_with fail
          go_quiet (fail)
          go_wp2_with fail
          go_roundg g'
          case measure => omega
          case rel => exact ⟨i + 1, by go_num, below_drewN hbw _, by omega, by omega, HA⟩
      · have hend : i = xs.length := by omega
        have HA : Hid (T = true) := by
          show _ = _
          rw [← HT.out, hend, List.drop_length, HL.out, List.drop_length]; rfl
        subst hend
        clear HP HQ HT HL
        go_wp2_with fail
        go_ret
        exact ⟨by rw [HA.out]; rfl, hbw⟩
  · have hne : ((xs.length : Int) != (ys.length : Int)) = true := by rw [bne_iff_ne]; omega
    rw [sameR_len xs ys hlen]
    clear HP HQ hlen
    go_enter Tryd.func15, Tryd.ntmps15
    go_wp2_with fail
    go_ret
    exact ⟨rfl, Below.refl _ _⟩

set_option maxRecDepth 100000 in
set_option maxHeartbeats 4000000 in
theorem same_any (v1 v2 : Value) (xs ys : List (List Val)) (w : World) (h1 : RowsL w v1 xs) (h2 : RowsL w v2 ys) :
    Calls Tryd.prog 7 #[v1, v2] w fun e w' => e = .returned (.bool (sameRs xs ys)) ∧ Below w.heap.size w w' := by
  obtain ⟨p, c, rfl, hl1, hp⟩ := h1
  obtain ⟨q, d, rfl, hl2, hq⟩ := h2
  have HP : Hid (0 < xs.length → ∃ b o, p = some ⟨b, o, none⟩ ∧ b < w.heap.size ∧ ∀ j (h : j < xs.length), ∃ u, w.cell? ⟨b, o + j, none⟩ = some u ∧ RowV w u xs[j]) := hp
  have HQ : Hid (0 < ys.length → ∃ b o, q = some ⟨b, o, none⟩ ∧ b < w.heap.size ∧ ∀ j (h : j < ys.length), ∃ u, w.cell? ⟨b, o + j, none⟩ = some u ∧ RowV w u ys[j]) := hq
  clear hp hq
  by_cases hlen : xs.length = ys.length
  · obtain ⟨T, hT⟩ : ∃ T, sameRs xs ys = T := ⟨_, rfl⟩
    have HT : Hid (sameRs xs ys = T) := hT
    have HL : Hid (xs.length = ys.length) := hlen
    have hne : ((xs.length : Int) != (ys.length : Int)) = false := by rw [hlen]; simp
    rw [hT]
    clear hT hlen
    go_enter Tryd.func7, Tryd.ntmps7
    go_wp2_with fail
    go_loopg [13] xs.length (fun gf s13 wx => ∃ i : Nat, s13 = .int .i64 i ∧ Below w.heap.size w wx ∧ i ≤ xs.length ∧ xs.length ≤ i + gf ∧ Hid (sameRs (xs.drop i) (ys.drop i) = T))
    case atStart => exact ⟨0, rfl, Below.refl _ _, by omega, by omega, HT⟩
    case round =>
      clear HT
      obtain ⟨i, rfl, hbw, hi1, hgf, HT⟩ := hrel
      by_cases hi : i < xs.length
      · obtain ⟨g', rfl⟩ : ∃ g', gk = g' + 1 := ⟨gk - 1, by omega⟩
        have hiy : i < ys.length := by rw [← HL.out]; exact hi
        obtain ⟨b1, o1, rfl, hB1, hr1⟩ := HP.out (by omega)
        obtain ⟨b2, o2, rfl, hB2, hr2⟩ := HQ.out (by omega)
        obtain ⟨u1, x0, x1⟩ := hr1 i hi
        obtain ⟨u2, y0, y1⟩ := hr2 i hiy
        rw [← hbw.cell (p := ⟨b1, _, none⟩) hB1] at x0
        rw [← hbw.cell (p := ⟨b2, _, none⟩) hB2] at y0
        have hat := sameRs_at xs ys i hi hiy
        rw [HT.out] at hat
        have cS : Hid (∀ p : LaterS wr.heap.size wr, Calls Tryd.prog 15 #[u1, u2] p.w fun e w' => e = .returned (.bool (sameR xs[i] ys[i])) ∧ Below p.w.heap.size p.w w') := fun p =>
          sameRow_any u1 u2 xs[i] ys[i] p.w (x1.below (hbw.trans (p.h.mono hbw.size))) (y1.below (hbw.trans (p.h.mono hbw.size)))
        obtain ⟨p1, n1, c1, rfl⟩ := x1.slice
        obtain ⟨p2, n2, c2, rfl⟩ := y1.slice
        have hb1r : b1 < wr.heap.size := Nat.lt_of_lt_of_le hB1 hbw.size
        have hb2r : b2 < wr.heap.size := Nat.lt_of_lt_of_le hB2 hbw.size
        have px : ∀ p : LaterS wr.heap.size wr, p.w.cell? ⟨b1, o1 + i, none⟩ = some (.slice p1 n1 c1) := fun p => by rw [p.h.cell hb1r]; exact x0
        have py : ∀ p : LaterS wr.heap.size wr, p.w.cell? ⟨b2, o2 + i, none⟩ = some (.slice p2 n2 c2) := fun p => by rw [p.h.cell hb2r]; exact y0
        have hz0 : (0 : Int) ≤ (i : Int) := by omega
        have hz1 : (i : Int) < (xs.length : Int) := by omega
        have hz2 : (i : Int) < (ys.length : Int) := by omega
        clear hr1 hr2 HP HQ HT x0 y0 x1 y1
        cases hs : sameR xs[i] ys[i]
        · rw [hs] at cS hat
          have HA : Hid (T = false) := (show _ = _ by simpa using hat)
          clear hat hs
          go_wp2_with fail
          have inhL := laterInh
          refine wp_region_laterS mixedOnS (by kernel_rfl) ?_
          repeat (go_big_quiet_step ((go_at_call 15; exact calls_laterS (cS.out _))))
          refine wpQuiet_nil ?_
          intro w2 hw'
          obtain ⟨⟨wq, hwq⟩, hw''⟩ := hw'
          subst hw''
          go_wp2_with fail
          go_ret
          exact ⟨by rw [HA.out]; rfl, hbw.trans (hwq.mono hbw.size)⟩
        · rw [hs] at cS hat
          have HA : Hid (sameRs (xs.drop (i + 1)) (ys.drop (i + 1)) = T) := (show _ = _ by simpa using hat.symm)
          clear hat hs
          go_wp2_with fail
          have inhL := laterInh
          refine wp_region_laterS mixedOnS (by kernel_rfl) ?_
          repeat (go_big_quiet_step ((go_at_call 15; exact calls_laterS (cS.out _))))
          refine wpQuiet_nil ?_
          intro w2 hw'
          obtain ⟨⟨wq, hwq⟩, hw''⟩ := hw'
          subst hw''
          go_wp2_with fail
          go_roundg g'
          case measure => omega
          case rel => exact ⟨i + 1, by go_num, hbw.trans (hwq.mono hbw.size), by omega, by omega, HA⟩
      · have hend : i = xs.length := by omega
        have HA : Hid (T = true) := by
          show _ = _
          rw [← HT.out, hend, List.drop_length, HL.out, List.drop_length]; rfl
        subst hend
        clear HP HQ HT HL
        go_wp2_with fail
        go_ret
        exact ⟨by rw [HA.out]; rfl, hbw⟩
  · have hne : ((xs.length : Int) != (ys.length : Int)) = true := by rw [bne_iff_ne]; omega
    rw [sameRs_len xs ys hlen]
    clear HP HQ hlen
    go_enter Tryd.func7, Tryd.ntmps7
    go_wp2_with fail
    go_ret
    exact ⟨rfl, Below.refl _ _⟩
/-- Rows that are being gathered. -/
def GathJ (w : World) (i : Nat) (rs : List (List Val)) (v : Value) (wx : World) : Prop :=
  ∃ us : List Value, wx.ownsRow w.heap.size 35 1 v i us ∧ Below w.heap.size w wx ∧ ∀ j (h : j < rs.length), j < i → ∃ u, us[j]? = some u ∧ OwnR w.heap.size wx u rs[j]
/-- append(api.Row{}, r...): a row of its own memory. -/
theorem row_new (w W : World) (ty : TypeId) (u : Value) (xs : List Val) (hr : RowV w u xs) (hB : Below w.heap.size w W) (hby : xs.length * 32 ≤ 140737488355328) :
    ∃ v' W', (Builtin.append_ #[35, 35] ty #[.slice (some ⟨W.heap.size, 0, none⟩) 0 0, u]).run Tryd.prog (W.alloc (.cells #[] 38)) = .ok v' W' ∧ W'.ownsRow W.heap.size 38 4 v' xs.length (flat xs) ∧ W.grownBy W' none := by
  obtain ⟨i0, hi, hz0, hz1, hz2⟩ := infoVal
  have hown : (W.alloc (.cells #[] 38)).ownsRow W.heap.size 38 4 (.slice (some ⟨W.heap.size, 0, none⟩) 0 0) 0 [] := ⟨rfl, .inr ⟨W.heap.size, 0, #[], rfl, Nat.le_refl _, heap_alloc_new W _, Nat.le_refl _, Nat.zero_le _, rfl, rfl⟩⟩
  have gr : W.grownBy (W.alloc (.cells #[] 38)) none := World.grownBy_alloc W _ none
  obtain ⟨p, c, rfl, hc⟩ := hr.cells
  rcases hc with ⟨rfl, rfl⟩ | ⟨rfl, a, rfl⟩ | ⟨b, o, rfl, hlt, hc⟩
  · refine ⟨.slice (some ⟨W.heap.size, 0, none⟩) 0 0, _, ?_, hown, gr⟩
    simp [Builtin.append_, run_underlying Tryd.underlying35, sizeOf, typeInfo, hi, Builtin.lenOf, Builtin.firstCells, loadCells, loadCellsFrom, storeCells]
  · have hl : (loadCells a 0).run Tryd.prog (W.alloc (.cells #[] 38)) = .ok #[] (W.alloc (.cells #[] 38)) := by simpa using run_loadCells_list (P := Tryd.prog) (W.alloc (.cells #[] 38)) a [] (by simp)
    refine ⟨.slice (some ⟨W.heap.size, 0, none⟩) 0 0, _, ?_, hown, gr⟩
    simp [Builtin.append_, run_underlying Tryd.underlying35, sizeOf, typeInfo, hi, Builtin.lenOf, Builtin.firstCells, hl, storeCells]
  · have hB1 : Below w.heap.size w (W.alloc (.cells #[] 38)) := hB.alloc hB.size _
    obtain ⟨v', W', e, h2, h3, _, h5⟩ := run_append_own_at (P := Tryd.prog) (W.alloc (.cells #[] 38)) W.heap.size 35 ty 38 i0 _ 4 32 Tryd.underlying35 hi hz0 hz1 hz2 rfl (by omega) _ 0 [] hown ⟨b, o, none⟩ xs.length c (flat xs) (flat_length xs)
      (fun j u hu => by rw [hB1.cell (by unfold Addr.add; split <;> exact hlt)]; exact hc j u hu) (flat_one xs) (by unfold maxLen; omega) (by omega) (by simp)
    rw [Nat.zero_add, List.nil_append] at h2
    refine ⟨v', W', e, h2, ⟨h3.os.trans gr.os, h3.tape.trans gr.tape, h3.output.trans gr.output, Nat.le_trans gr.size h3.size, fun k hk hne => ?_⟩⟩
    rw [h3.block k (by have := gr.size; omega) (by simp [Value.ownBlock]; omega)]
    exact gr.block k hk hne
theorem gath_step {w wr : World} {i : Nat} {rs : List (List Val)} {xs : List Val} {v u : Value} (hJ : GathJ w i rs v wr) (hx : rs[i]? = some xs) (hr : RowV w u xs) (hby : xs.length * 32 ≤ 140737488355328) (hn : (i + 1) * 24 ≤ 140737488355328) :
    ∃ q1 m1 c1 W1 v2 W2, (Builtin.append_ #[35, 35] 35 #[.slice (some ⟨wr.heap.size, 0, none⟩) 0 0, u]).run Tryd.prog (wr.alloc (.cells #[] 38)) = .ok (.slice q1 m1 c1) W1 ∧
      (Builtin.append_ #[25, 25] 25 #[v, .slice (some ⟨W1.heap.size, 0, none⟩) 1 1]).run Tryd.prog (W1.alloc (.cells #[.slice q1 m1 c1] 35)) = .ok v2 W2 ∧ GathJ w (i + 1) rs v2 W2 := by
  obtain ⟨us, hv, hb, hr'⟩ := hJ
  obtain ⟨u1, W1, e1, o1, g1⟩ := row_new w wr 35 u xs hr hb hby
  have hv1 : W1.ownsRow w.heap.size 35 1 v i us := hv.kept g1 (by cases v.ownBlock <;> simp)
  have hb1 := grown_below hb g1 (fun k h => by cases h)
  have o1' : OwnR w.heap.size W1 u1 xs := by
    obtain ⟨hl, h | ⟨g, cap, cur, h0, h1, rest⟩⟩ := o1
    · exact ⟨hl, .inl h⟩
    · exact ⟨hl, .inr ⟨g, cap, cur, h0, Nat.le_trans hb.size h1, rest⟩⟩
  obtain ⟨v2, W2, e2, o2, g2⟩ := rows_more w.heap.size W1 25 v u1 i us hv1 (ownR_one o1') hb1.size hn
  obtain ⟨q1, m1, c1, rfl⟩ : ∃ q1 m1 c1, u1 = .slice q1 m1 c1 := by
    obtain ⟨_, ⟨rfl, _⟩ | ⟨g, cap, cur, rfl, _⟩⟩ := o1' <;> exact ⟨_, _, _, rfl⟩
  refine ⟨q1, m1, c1, W1, v2, W2, e1, e2, us ++ [.slice q1 m1 c1], o2, grown_below hb1 g2 (fun k h => (hv1.lt k h).1), fun j hj hji => ?_⟩
  have hul : us.length = i := by simpa using hv.1
  by_cases e : j = i
  · subst e
    have ex : rs[j] = xs := by
      rw [List.getElem?_eq_getElem hj] at hx
      exact Option.some.inj hx
    refine ⟨_, by rw [List.getElem?_append_right (by omega), hul, Nat.sub_self]; rfl, ?_⟩
    rw [ex]
    exact o1'.kept g2 (own_apart hv1 o1')
  · obtain ⟨u', h1, h2⟩ := hr' j hj (by omega)
    refine ⟨u', by rw [List.getElem?_append_left (by omega)]; exact h1, ?_⟩
    have h3 : OwnR w.heap.size W1 u' rs[j] := h2.kept g1 (by cases u'.ownBlock <;> simp)
    exact h3.kept g2 (own_apart hv1 h3)
theorem GathJ.start (w : World) (rs : List (List Val)) : GathJ w 0 rs (.slice none 0 0) w := ⟨[], World.ownsRow_nil _ _ _ _, Below.refl _ _, fun j _ h => by omega⟩
set_option maxRecDepth 100000 in
set_option maxHeartbeats 4000000 in
theorem refCopy_any (v : Value) (rs : List (List Val)) (w : World) (h : RowsL w v rs) (hn : rs.length * 24 ≤ 140737488355328) (hr : ∀ r ∈ rs, r.length * 32 ≤ 140737488355328) :
    Calls Tryd.prog 5 #[v] w fun e w' => ∃ u, e = .returned u ∧ GathJ w rs.length rs u w' := by
  obtain ⟨p, c, rfl, hl, hp⟩ := h
  have HP : Hid (0 < rs.length → ∃ b o, p = some ⟨b, o, none⟩ ∧ b < w.heap.size ∧ ∀ j (h : j < rs.length), ∃ u, w.cell? ⟨b, o + j, none⟩ = some u ∧ RowV w u rs[j]) := hp
  have HR : Hid (∀ r ∈ rs, r.length * 32 ≤ 140737488355328) := hr
  clear hp hr
  go_enter Tryd.func5, Tryd.ntmps5
  go_wp2_with fail
  go_loopg [3, 8] rs.length (fun gf s3 s8 wx => ∃ i : Nat, s8 = .int .i64 i ∧ i ≤ rs.length ∧ rs.length ≤ i + gf ∧ Hid (GathJ w i rs s3 wx))
  case atStart => exact ⟨0, rfl, by omega, by omega, GathJ.start w rs⟩
  case round =>
    obtain ⟨i, rfl, hi1, hgf, HJ⟩ := hrel
    by_cases hi : i < rs.length
    · obtain ⟨g', rfl⟩ : ∃ g', gk = g' + 1 := ⟨gk - 1, by omega⟩
      obtain ⟨b, o, rfl, hB, hc⟩ := HP.out (by omega)
      obtain ⟨u, x0, x1⟩ := hc i hi
      have hbw : Below w.heap.size w wr := by obtain ⟨_, _, h, _⟩ := HJ.out; exact h
      rw [← hbw.cell (p := ⟨b, _, none⟩) hB] at x0
      obtain ⟨q1, m1, c1, W1, v2, W2, e1, e2, J2⟩ := gath_step HJ.out (List.getElem?_eq_getElem hi) x1 (HR.out _ (List.getElem_mem hi)) (by omega)
      have HJ2 : Hid (GathJ w (i + 1) rs v2 W2) := J2
      obtain ⟨q, m, c2, rfl⟩ := x1.slice
      have hz0 : (0 : Int) ≤ (i : Int) := by omega
      have hz1 : (i : Int) < (rs.length : Int) := by omega
      clear J2 HJ hc x1 hbw HP HR
      have E1 : Hid _ := e1
      have E2 : Hid _ := e2
      clear e1 e2
      go_wp2_with (at_builtin; first | refine wpList_append_run _ rfl _ _ 35 35 rfl _ _ _ _ rfl rfl E1.out ?_ | refine wpList_append_run _ rfl _ _ 25 25 rfl _ _ _ _ rfl rfl E2.out ?_)
      go_roundg g'
      case measure => omega
      case rel => exact ⟨i + 1, by go_num, by omega, by omega, HJ2⟩
    · have hend : i = rs.length := by omega
      subst hend
      have hz1 : ¬ (rs.length : Int) < (rs.length : Int) := by omega
      clear HP HR
      go_wp2_with fail
      go_ret
      exact ⟨_, rfl, HJ.out⟩
theorem GathJ.rows {w W : World} {v : Value} {rs : List (List Val)} (h : GathJ w rs.length rs v W) (hn : rs.length ≤ 9223372036854775807) : RowsL W v rs := by
  obtain ⟨us, hv, hb, hr⟩ := h
  obtain ⟨hl, ⟨rfl, h0⟩ | ⟨g, cap, cur, rfl, hbg, hg, hnc, hcm, hcs, htake⟩⟩ := hv
  · exact ⟨none, 0, by rw [h0], hn, fun h => by omega⟩
  · refine ⟨_, cap, rfl, hn, fun _ => ⟨g, 0, rfl, (Array.getElem?_eq_some_iff.1 hg).1, fun j hj => ?_⟩⟩
    obtain ⟨u, h1, h2⟩ := hr j hj hj
    refine ⟨u, ?_, h2.row⟩
    rw [← htake] at h1
    rw [Nat.zero_add]
    simp only [World.cell?, hg]
    have := List.getElem?_take (l := cur.toList) (i := rs.length * 1) (j := j)
    rw [h1] at this
    split at this
    · simpa using this.symm
    · cases this
theorem GathJ.below {w W : World} {i : Nat} {v : Value} {rs : List (List Val)} (h : GathJ w i rs v W) : Below w.heap.size w W := by
  obtain ⟨_, _, h, _⟩ := h; exact h

end Go.Proofs.YthfoijnjgdeaaabDoor
