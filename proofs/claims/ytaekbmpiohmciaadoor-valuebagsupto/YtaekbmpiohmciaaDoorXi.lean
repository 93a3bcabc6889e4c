/- What the reference's CompareRows and SameBag answer. -/
import Derived.Test.YtaekbmpiohmciaaDoorXf
import Derived.Test.YtaekbmpiohmciaaDoorRc
namespace Go.Proofs.YtaekbmpiohmciaaDoor
open Go.Shelf Go.RowKit Go.Lib Go.Sort
set_option linter.unusedVariables false
set_option linter.unusedSimpArgs false
attribute [local go_sem ↓] Go.wp_at_zero Go.wp_at_succ
/-- Rows whose texts are small. -/
def SmallR (xs : List Val) : Prop := ∀ x ∈ xs, x.s.size ≤ 1048576
set_option maxRecDepth 100000 in
set_option maxHeartbeats 4000000 in
theorem refRows_any (v1 v2 : Value) (xs ys : List Val) (w : World) (h1 : RowV w v1 xs) (h2 : RowV w v2 ys) (s1 : SmallR xs) (s2 : SmallR ys) :
    Calls Tryd.prog 58 #[v1, v2] w fun e w' => e = .returned (.int .i64 (cmpR xs ys)) ∧ Below w.heap.size w w' := by
  obtain ⟨p, c, rfl, hl1, hp⟩ := h1.form
  obtain ⟨q, d, rfl, hl2, hq⟩ := h2.form
  have HP : Hid (0 < xs.length → ∃ b o, p = some ⟨b, o, none⟩ ∧ RowIs w b o xs ∧ b < w.heap.size) := hp
  have HQ : Hid (0 < ys.length → ∃ b o, q = some ⟨b, o, none⟩ ∧ RowIs w b o ys ∧ b < w.heap.size) := hq
  have H1 : Hid (SmallR xs) := s1
  have H2 : Hid (SmallR ys) := s2
  obtain ⟨T, hT⟩ : ∃ T, cmpR xs ys = T := ⟨_, rfl⟩
  have HT : Hid (lexBy cmpV xs ys = T) := hT
  rw [hT]
  clear hp hq h1 h2 s1 s2 hT
  go_enter Tryd.func58, Tryd.ntmps58
  go_wp2_with fail
  go_loopg [5] xs.length (fun gf s5 wx => ∃ i : Nat, s5 = .int .i64 i ∧ Below w.heap.size w wx ∧ i ≤ xs.length ∧ i ≤ ys.length ∧ xs.length ≤ i + gf ∧ Hid (lexBy cmpV (xs.drop i) (ys.drop i) = T))
  case atStart => exact ⟨0, rfl, Below.refl _ _, by omega, by omega, by omega, HT⟩
  case round =>
    clear HT
    obtain ⟨i, rfl, hbw, hi1, hi2, hgf, HT⟩ := hrel
    by_cases hi : i < xs.length ∧ i < ys.length
    · obtain ⟨hix, hiy⟩ := hi
      obtain ⟨g', rfl⟩ : ∃ g', gk = g' + 1 := ⟨gk - 1, by omega⟩
      obtain ⟨b1, o1, rfl, hr1, hB1⟩ := HP.out (by omega)
      obtain ⟨b2, o2, rfl, hr2, hB2⟩ := HQ.out (by omega)
      obtain ⟨x0, x1, x2, x3⟩ := hr1 i hix
      obtain ⟨y0, y1, y2, y3⟩ := hr2 i hiy
      rw [← hbw.cell (p := ⟨b1, _, none⟩) hB1] at x0 x1 x2 x3
      rw [← hbw.cell (p := ⟨b2, _, none⟩) hB2] at y0 y1 y2 y3
      have hat := lexBy_at cmpV xs ys i hix hiy
      rw [HT.out] at hat
      have z1 := H1.out xs[i] (List.getElem_mem hix)
      have z2 := H2.out ys[i] (List.getElem_mem hiy)
      obtain ⟨⟨xk, xb, xn, xsx⟩, hxv⟩ : ∃ v, xs[i] = v := ⟨_, rfl⟩
      obtain ⟨⟨yk, yb, yn, ysx⟩, hyv⟩ : ∃ v, ys[i] = v := ⟨_, rfl⟩
      rw [hxv] at x0 x1 x2 x3 z1
      rw [hyv] at y0 y1 y2 y3 z2
      rw [hxv, hyv] at hat
      simp only at x0 x1 x2 x3 y0 y1 y2 y3 z1 z2
      have hb1r : b1 < wr.heap.size := Nat.lt_of_lt_of_le hB1 hbw.size
      have hb2r : b2 < wr.heap.size := Nat.lt_of_lt_of_le hB2 hbw.size
      have px0 : ∀ p : LaterS wr.heap.size wr, p.w.cell? ⟨b1, o1 + i * 4, none⟩ = some (.int .u8 xk) := fun p => by rw [p.h.cell hb1r]; exact x0
      have px1 : ∀ p : LaterS wr.heap.size wr, p.w.cell? ⟨b1, o1 + i * 4 + 1, none⟩ = some (.bool xb) := fun p => by rw [p.h.cell hb1r]; exact x1
      have px2 : ∀ p : LaterS wr.heap.size wr, p.w.cell? ⟨b1, o1 + i * 4 + 2, none⟩ = some (.int .i64 xn) := fun p => by rw [p.h.cell hb1r]; exact x2
      have px3 : ∀ p : LaterS wr.heap.size wr, p.w.cell? ⟨b1, o1 + i * 4 + 3, none⟩ = some (.string xsx) := fun p => by rw [p.h.cell hb1r]; exact x3
      have py0 : ∀ p : LaterS wr.heap.size wr, p.w.cell? ⟨b2, o2 + i * 4, none⟩ = some (.int .u8 yk) := fun p => by rw [p.h.cell hb2r]; exact y0
      have py1 : ∀ p : LaterS wr.heap.size wr, p.w.cell? ⟨b2, o2 + i * 4 + 1, none⟩ = some (.bool yb) := fun p => by rw [p.h.cell hb2r]; exact y1
      have py2 : ∀ p : LaterS wr.heap.size wr, p.w.cell? ⟨b2, o2 + i * 4 + 2, none⟩ = some (.int .i64 yn) := fun p => by rw [p.h.cell hb2r]; exact y2
      have py3 : ∀ p : LaterS wr.heap.size wr, p.w.cell? ⟨b2, o2 + i * 4 + 3, none⟩ = some (.string ysx) := fun p => by rw [p.h.cell hb2r]; exact y3
      obtain ⟨C, hC⟩ : ∃ C, cmpV ⟨xk, xb, xn, xsx⟩ ⟨yk, yb, yn, ysx⟩ = C := ⟨_, rfl⟩
      have cC : Hid (∀ p : LaterS wr.heap.size wr, Calls Tryd.prog 13 #[.agg #[.int .u8 xk, .bool xb, .int .i64 xn, .string xsx], .agg #[.int .u8 yk, .bool yb, .int .i64 yn, .string ysx]] p.w fun e w' => e = .returned (.int .i64 C) ∧ Below p.w.heap.size p.w w') := fun p => by
        rw [← hC]
        exact compareRef_any xk yk xb yb xn yn xsx ysx p.w z1 z2
      rw [hC] at hat
      have HA : Hid (T = if C = 0 then lexBy cmpV (xs.drop (i + 1)) (ys.drop (i + 1)) else C) := hat
      have hz0 : (0 : Int) ≤ (i : Int) := by omega
      have hz1 : (i : Int) < (xs.length : Int) := by omega
      have hz2 : (i : Int) < (ys.length : Int) := by omega
      clear hr1 hr2 HP HQ hxv hyv HT hat hC x0 x1 x2 x3 y0 y1 y2 y3
      by_cases h0 : C = 0
      · subst h0
        go_wp2_with fail
        have inhL := laterInh
        refine wp_region_laterS mixedOnS (by kernel_rfl) ?_
        repeat (go_big_quiet_step ((go_at_call 13; exact calls_laterS (cC.out _))))
        refine wpQuiet_nil ?_
        intro w2 hw'
        obtain ⟨⟨wq, hwq⟩, hw''⟩ := hw'
        subst hw''
        have HB2 : Hid (Below w.heap.size w w2) := hbw.trans (hwq.mono hbw.size)
        clear hwq px0 px1 px2 px3 py0 py1 py2 py3
        go_wp2_with fail
        go_roundg g'
        case measure => omega
        case rel => exact ⟨i + 1, by go_num, HB2.out, by omega, by omega, by omega, (show _ = _ by have := HA.out; simpa using this.symm)⟩
      · have hb : (C != 0) = true := bne_iff_ne.2 h0
        go_wp2_with fail
        have inhL := laterInh
        refine wp_region_laterS mixedOnS (by kernel_rfl) ?_
        repeat (go_big_quiet_step ((go_at_call 13; exact calls_laterS (cC.out _))))
        refine wpQuiet_nil ?_
        intro w2 hw'
        obtain ⟨⟨wq, hwq⟩, hw''⟩ := hw'
        subst hw''
        have HB2 : Hid (Below w.heap.size w w2) := hbw.trans (hwq.mono hbw.size)
        clear hwq px0 px1 px2 px3 py0 py1 py2 py3
        go_wp2_with fail
        go_ret
        exact ⟨retI (by have := HA.out; rw [if_neg h0] at this; exact this.symm), HB2.out⟩
    · have HA : Hid (T = cmpI (xs.length : Int) (ys.length : Int)) := by
        show _ = _
        rw [← HT.out, lexBy_end cmpV xs ys i hi hi1 hi2]
      have CO : Hid (∀ W, Calls Tryd.prog 46 #[.bool (decide (xs.length < ys.length)), .bool (decide (ys.length < xs.length))] W fun e w' => e = .returned (.int .i64 T) ∧ w' = W) := fun W => by
        rw [HA.out, ← ordB_nat]
        exact order_any _ _ W
      clear HP HQ HT HA
      by_cases hx : i < xs.length
      · have hz1 : (i : Int) < (xs.length : Int) := by omega
        have hz2 : ¬ (i : Int) < (ys.length : Int) := by omega
        go_wp2_with fail
        refine (CO.out _).mono ?_
        rintro e w' ⟨rfl, rfl⟩
        go_wp2_with fail
        go_ret
        exact ⟨rfl, hbw⟩
      · have hz1 : ¬ (i : Int) < (xs.length : Int) := by omega
        go_wp2_with fail
        refine (CO.out _).mono ?_
        rintro e w' ⟨rfl, rfl⟩
        go_wp2_with fail
        go_ret
        exact ⟨rfl, hbw⟩
end Go.Proofs.YtaekbmpiohmciaaDoor
