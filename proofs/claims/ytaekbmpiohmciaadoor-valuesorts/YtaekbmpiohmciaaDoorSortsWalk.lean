/- The law ValueSorts returns true. -/
import Derived.Test.YtaekbmpiohmciaaDoorXg
namespace Go.Proofs.YtaekbmpiohmciaaDoor
open Go.Shelf Go.RowKit Go.Lib Go.Sort
set_option linter.unusedVariables false
set_option linter.unusedSimpArgs false
attribute [local go_sem ↓] Go.wp_at_zero Go.wp_at_succ
theorem sameBag_is (v1 v2 : Value) (xs ys : List (List Val)) (w : World) (h1 : RowsL w v1 xs) (h2 : RowsL w v2 ys) (hl : xs.length * 24 ≤ 140737488355328) (t : Bool) (ht : t = true ↔ xs.Perm ys) :
    Calls Tryd.prog 34 #[v1, v2] w fun e w' => e = .returned (.bool t) ∧ Below w.heap.size w w' :=
  (sameBag_any v1 v2 xs ys w h1 h2 hl).mono fun e w' ⟨t', he, ht', hb⟩ => ⟨by rw [he]; congr 2; cases t <;> cases t' <;> simp_all, hb⟩
set_option maxRecDepth 100000 in
set_option maxHeartbeats 8000000 in
theorem sorts_core (p q : Option Addr) (c m cq : Nat) (rs : List (List Val)) (r : List Val) (w : World) (h : RowsL w (.slice p rs.length c) rs) (hu : RowV w (.slice q m cq) r) (hn : (rs.length + 1) * 24 ≤ 140737488355328) (hr : ∀ r ∈ rs, r.length * 32 ≤ 140737488355328) (hT : Lib.Utf8Tabs 0 1 w) :
    Calls Tryd.prog 8 #[.slice p rs.length c, .slice q m cq] w fun e w' => e = .returned (.bool true) ∧ Below w.heap.size w w' := by
  have CL : Hid (Calls Tryd.prog 9 #[] w fun e w' => e = .returned (.bool true) ∧ Below w.heap.size w w') := lives_any w hT
  have HV : Hid (RowsL w (.slice p rs.length c) rs) := h
  have HU : Hid (RowV w (.slice q m cq) r) := hu
  have HR : Hid (∀ r ∈ rs, r.length * 32 ≤ 140737488355328) := hr
  have HT : Hid (Lib.Utf8Tabs 0 1 w) := hT
  clear h hu hr hT
  go_enter Tryd.func8, Tryd.ntmps8
  go_wp2_with fail
  refine CL.out.mono ?_
  rintro e w1 ⟨rfl, hb1⟩
  have HB1 : Hid (Below w.heap.size w w1) := hb1
  clear hb1 CL
  go_wp2_with fail
  refine (sort_any _ rs w1 (HV.out.below HB1.out) (by omega) HR.out (Utf8Tabs_below HT.out HB1.out)).mono ?_
  rintro e w2 ⟨s, out, rfl, hS, hO, hb2⟩
  have HS : Hid (IsSort rs rs.length out) := hS
  have hlen : out.length = rs.length := hS.length
  obtain ⟨g, cap, rfl, hO2⟩ : ∃ g cap, s = .slice (some ⟨g, 0, none⟩) rs.length cap ∧ OwnL w1.heap.size w2 s out := by
    have hO2 := hO
    obtain ⟨g, cap, rfl, _⟩ := hO
    exact ⟨g, cap, by rw [hlen], hO2⟩
  have HL : Hid (RowsL w2 (.slice (some ⟨g, 0, none⟩) rs.length cap) out) := hO2.rows (by omega)
  have HB2 : Hid (Below w.heap.size w w2) := HB1.out.trans (hb2.mono HB1.out.size)
  have HLen : Hid (out.length = rs.length) := hlen
  have HP : Hid (out.Perm rs) := hS.perm
  clear hS hO hO2 hb2 hlen HB1
  have hne : ((rs.length : Int) != (rs.length : Int)) = false := by simp
  go_wp2_with fail
  refine (sameBag_is _ _ rs out w2 (HV.out.below HB2.out) HL.out (by omega) true (by simpa using HP.out.symm)).mono ?_
  rintro e w3 ⟨rfl, hb3⟩
  have HB3 : Hid (Below w2.heap.size w2 w3) := hb3
  clear hb3
  go_wp2_with fail
  go_loopg [26] rs.length (fun gf s26 wx => ∃ i : Nat, s26 = .int .i64 i ∧ i ≤ rs.length ∧ rs.length ≤ i + gf ∧ Hid (Below w2.heap.size w2 wx))
  case atStart => exact ⟨0, rfl, by omega, by omega, HB3⟩
  case round =>
    clear HB3
    obtain ⟨i, rfl, hi1, hgf, HB3⟩ := hrel
    by_cases hi : i < rs.length
    · obtain ⟨g', rfl⟩ : ∃ g', gk = g' + 1 := ⟨gk - 1, by omega⟩
      have hz0 : (0 : Int) ≤ (i : Int) := by omega
      have hz1 : (i : Int) < (rs.length : Int) := by omega
      by_cases h0 : 0 < i
      · obtain ⟨_, _, hv, _, hc⟩ := HL.out
        obtain ⟨b, o, hbo, hlt, hc⟩ := hc (by have := HLen.out; omega)
        simp only [Value.slice.injEq, and_true] at hv
        obtain ⟨rfl, hv2, rfl⟩ := hv
        simp only [Option.some.injEq, Addr.mk.injEq, and_true] at hbo
        obtain ⟨rfl, rfl⟩ := hbo
        have hio : i < out.length := by have := HLen.out; omega
        have hio' : i - 1 < out.length := by omega
        obtain ⟨u1, x0, x1⟩ := hc (i - 1) hio'
        obtain ⟨u2, y0, y1⟩ := hc i hio
        have hb3 := HB3.out
        rw [Nat.zero_add, ← hb3.cell (p := ⟨g, _, none⟩) hlt] at x0 y0
        have hcmp : cmpR out[i - 1] out[i] ≤ 0 := by
          have := HS.out.sorted
          rw [List.pairwise_iff_getElem] at this
          exact this (i - 1) i hio' hio (by omega)
        have cC : Hid (∀ p : LaterS wr.heap.size wr, Calls Tryd.prog 36 #[u1, u2] p.w fun e w' => e = .returned (.int .i64 (cmpR out[i - 1] out[i])) ∧ Below p.w.heap.size p.w w') := fun p =>
          compareRows_any u1 u2 out[i - 1] out[i] p.w (x1.below (hb3.trans (p.h.mono hb3.size))) (y1.below (hb3.trans (p.h.mono hb3.size))) (Utf8Tabs_below HT.out ((HB2.out.trans (hb3.mono HB2.out.size)).trans (p.h.mono (Nat.le_trans HB2.out.size hb3.size))))
        obtain ⟨p1, n1, c1, rfl⟩ := x1.slice
        obtain ⟨p2, n2, c2, rfl⟩ := y1.slice
        have hltr : g < wr.heap.size := Nat.lt_of_lt_of_le hlt hb3.size
        have px : ∀ p : LaterS wr.heap.size wr, p.w.cell? ⟨g, i - 1, none⟩ = some (.slice p1 n1 c1) := fun p => by rw [p.h.cell hltr]; exact x0
        have py : ∀ p : LaterS wr.heap.size wr, p.w.cell? ⟨g, i, none⟩ = some (.slice p2 n2 c2) := fun p => by rw [p.h.cell hltr]; exact y0
        obtain ⟨C, hC⟩ : ∃ C, cmpR out[i - 1] out[i] = C := ⟨_, rfl⟩
        rw [hC] at cC hcmp
        have hng : ¬ (0 : Int) < C := by omega
        have hz2 : (0 : Int) < (i : Int) := by omega
        have ec : ((i : Int) - 1).toNat = i - 1 := by omega
        have pc : (0 : Int) ≤ (i : Int) - 1 := by omega
        have bc : (i : Int) - 1 < (rs.length : Int) := by omega
        have rc : IntKind.i64.wrap ((i : Int) - 1) = (i : Int) - 1 := by rw [IntKind.wrap_i64]; omega
        obtain ⟨jN, hjN⟩ : ∃ jN, i - 1 = jN := ⟨_, rfl⟩
        rw [hjN] at px ec
        clear hc hC x0 y0 x1 y1 hv2 hcmp hjN
        go_wp2_with fail
        have inhL := laterInh
        refine wp_region_laterS mixedOnS (by kernel_rfl) ?_
        repeat (go_big_quiet_step ((go_at_call 36; exact calls_laterS (cC.out _))))
        refine wpQuiet_nil ?_
        intro w4 hw'
        obtain ⟨⟨wq, hwq⟩, hw''⟩ := hw'
        subst hw''
        have HB4 : Hid (Below w2.heap.size w2 w4) := hb3.trans (hwq.mono hb3.size)
        clear hwq hb3 px py
        go_wp2_with fail
        go_roundg g'
        case measure => omega
        case rel => exact ⟨i + 1, by go_num, by omega, by omega, HB4⟩
      · have e0 : i = 0 := by omega
        subst e0
        have hng : ¬ (0 : Int) < ((0 : Nat) : Int) := by omega
        go_wp2_with fail
        have inhL := laterInh
        refine wp_region_laterS mixedOnS (by kernel_rfl) ?_
        repeat (go_big_quiet_step (fail))
        refine wpQuiet_nil ?_
        intro w4 hw'
        obtain ⟨⟨wq, hwq⟩, hw''⟩ := hw'
        subst hw''
        have HB4 : Hid (Below w2.heap.size w2 w4) := HB3.out.trans (hwq.mono HB3.out.size)
        clear hwq
        go_wp2_with fail
        go_roundg g'
        case measure => omega
        case rel => exact ⟨1, by go_num, by omega, by omega, HB4⟩
    · have hend : i = rs.length := by omega
      subst hend
      have hz1 : ¬ (rs.length : Int) < (rs.length : Int) := by omega
      have HBr : Hid (Below w.heap.size w wr) := HB2.out.trans (HB3.out.mono HB2.out.size)
      obtain ⟨v1, W1, v2, W2, e1, e2, b2, rm⟩ := more_made wr wr _ q m cq rs r (HV.out.below HBr.out) (HU.out.below HBr.out) (Below.refl _ _) hn
      have HBm : Hid (Below w.heap.size w W2) := HBr.out.trans (b2.mono HBr.out.size)
      obtain ⟨v3, W3, e3, b3, rf⟩ := front_made W2 W2 _ q m cq rs r (HV.out.below HBm.out) (HU.out.below HBm.out) (Below.refl _ _) hn
      have E1 : Hid _ := e1
      have E2 : Hid _ := e2
      have E3 : Hid _ := e3
      have HBf : Hid (Below w.heap.size w W3) := HBm.out.trans (b3.mono HBm.out.size)
      have HLf : Hid (RowsL W3 (.slice (some ⟨g, 0, none⟩) rs.length cap) out) := ((HL.out.below HB3.out).below b2).below b3
      have HMf : Hid (RowsL W3 v2 (rs ++ [r])) := rm.below b3
      have HFf : Hid (RowsL W3 v3 (r :: rs)) := rf
      clear e1 e2 e3 b2 b3 rm rf HB3 HBr HBm HL
      go_wp2_with (at_builtin; first | refine wpList_append_run _ rfl _ _ 34 34 rfl _ _ _ _ rfl rfl E1.out ?_ | refine wpList_append_run _ rfl _ _ 34 34 rfl _ _ _ _ rfl rfl E2.out ?_ | refine wpList_append_run _ rfl _ _ 34 34 rfl _ _ _ _ rfl rfl E3.out ?_)
      refine (sameBag_is _ _ rs (rs ++ [r]) W3 (HV.out.below HBf.out) HMf.out (by omega) false (by simp only [Bool.false_eq_true, false_iff]; intro hp; have := hp.length_eq; simp at this)).mono ?_
      rintro e W4 ⟨rfl, hb4⟩
      have HB4 : Hid (Below W3.heap.size W3 W4) := hb4
      clear hb4 E1 E2 E3
      go_wp2_with fail
      refine (sameBag_is _ _ (r :: rs) (rs ++ [r]) W4 (HFf.out.below HB4.out) (HMf.out.below HB4.out) (by simp; omega) true (by simpa using (List.perm_append_singleton r rs).symm)).mono ?_
      rintro e W5 ⟨rfl, hb5⟩
      have HB5 : Hid (Below W3.heap.size W3 W5) := HB4.out.trans (hb5.mono HB4.out.size)
      clear hb5
      go_wp2_with fail
      refine (sort_any _ out W5 (HLf.out.below HB5.out) (by have := HLen.out; omega) (fun x hx => HR.out x (HP.out.subset hx)) (Utf8Tabs_below HT.out (HBf.out.trans (HB5.out.mono HBf.out.size)))).mono ?_
      rintro e W6 ⟨s2, out2, rfl, hS2, hO2, hb6⟩
      have e2 : out2 = out := hS2.one (IsSort.self HS.out.sorted)
      subst e2
      have HB6 : Hid (Below W3.heap.size W3 W6) := HB5.out.trans (hb6.mono HB5.out.size)
      have HL6 : Hid (RowsL W6 s2 out2) := hO2.rows (by have := HLen.out; omega)
      clear hS2 hO2 hb6
      go_wp2_with fail
      have cs := same_any s2 _ out2 out2 W6 HL6.out (HLf.out.below HB6.out)
      rw [(sameRs_iff out2 out2).2 rfl] at cs
      refine cs.mono ?_
      rintro e W7 ⟨rfl, hb7⟩
      have HB7 : Hid (Below w.heap.size w W7) := by
        have h1 := HB6.out.trans (hb7.mono HB6.out.size)
        exact HBf.out.trans (h1.mono HBf.out.size)
      clear hb7 cs
      go_wp2_with fail
      go_ret
      exact ⟨rfl, HB7.out⟩
end Go.Proofs.YtaekbmpiohmciaaDoor
