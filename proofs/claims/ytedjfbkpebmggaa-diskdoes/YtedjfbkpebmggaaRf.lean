/- The reference: what refuses answers. -/
import Derived.Test.YtedjfbkpebmggaaRe
namespace Go.Proofs.Ytedjfbkpebmggaa
open Go.Shelf Go.RowKit Go.Lib Go.Sort
set_option linter.unusedVariables false
set_option linter.unusedSimpArgs false
attribute [local go_sem ↓] Go.wp_at_zero Go.wp_at_succ
theorem wo_none {nm : ByteArray} {fs : List DF} (h : has nm fs = false) : wo nm fs = fs := by
  unfold wo
  rw [List.filter_eq_self]
  intro f hf
  unfold has at h
  rw [List.any_eq_false] at h
  have := h f hf
  simpa using this
theorem szs_cons (f : DF) (fs : List DF) : szs (f :: fs) = f.d.size + szs fs := by simp [szs]
theorem szs_wo_eq : ∀ {fs : List DF}, Up fs → ∀ {f : DF}, f ∈ fs → szs (wo f.n fs) + f.d.size = szs fs
  | [], _, _, h => by cases h
  | g :: fs, hu, f, h => by
    obtain ⟨h1, h2⟩ := List.pairwise_cons.1 hu
    rcases List.mem_cons.1 h with rfl | h
    · have e1 : wo f.n (f :: fs) = wo f.n fs := by unfold wo; rw [List.filter_cons_of_neg (by simp [eqB])]
      have e2 : wo f.n fs = fs := by
        unfold wo
        rw [List.filter_eq_self]
        intro g hg
        cases e : eqB g.n f.n with
        | false => rfl
        | true => exact absurd (eqB_iff.1 e).symm (ltB_ne (h1 g hg))
      rw [e1, e2, szs_cons]; omega
    · have e1 : wo f.n (g :: fs) = g :: wo f.n fs := by
        unfold wo
        rw [List.filter_cons_of_pos]
        cases e : eqB g.n f.n with
        | false => rfl
        | true => exact absurd (eqB_iff.1 e) (ltB_ne (h1 f h))
      have ih := szs_wo_eq h2 h
      rw [e1, szs_cons, szs_cons]; omega
theorem rfbox (w : World) (v : Value) (dn : Bool) (fu kk : Int) (nm tt dt : ByteArray) : ∃ W0, (w.alloc (.cells #[v, .bool dn, .int .i64 fu] 24)).alloc (.cells #[.int .u8 kk, .string nm, .string tt, .string dt] 27) = W0 ∧ Below w.heap.size w W0 ∧ W0.heap.size = w.heap.size + 2 ∧
    (∀ W, Below W0.heap.size W0 W → (W.cell? ⟨w.heap.size, 0, none⟩ = some v ∧ W.cell? ⟨w.heap.size, 1, none⟩ = some (.bool dn) ∧ W.cell? ⟨w.heap.size, 2, none⟩ = some (.int .i64 fu)) ∧
      (W.cell? ⟨w.heap.size + 1, 0, none⟩ = some (.int .u8 kk) ∧ W.cell? ⟨w.heap.size + 1, 1, none⟩ = some (.string nm) ∧ W.cell? ⟨w.heap.size + 1, 2, none⟩ = some (.string tt) ∧ W.cell? ⟨w.heap.size + 1, 3, none⟩ = some (.string dt))) := by
  refine ⟨_, rfl, two_below _ _ _, by simp, fun W hb => ?_⟩
  have g0 : W.heap[w.heap.size]? = some (.cells #[v, .bool dn, .int .i64 fu] 24 (0, 0)) := by
    rw [hb.block _ (by simp; omega), heap_alloc_old _ _ (by simp)]; exact heap_alloc_new w _
  have g1 : W.heap[w.heap.size + 1]? = some (.cells #[.int .u8 kk, .string nm, .string tt, .string dt] 27 (0, 0)) := by
    rw [hb.block _ (by simp)]
    have := heap_alloc_new (w.alloc (.cells #[v, .bool dn, .int .i64 fu] 24)) (.cells #[.int .u8 kk, .string nm, .string tt, .string dt] 27)
    simpa using this
  exact ⟨⟨cell_of_row g0 rfl, cell_of_row g0 rfl, cell_of_row g0 rfl⟩, cell_of_row g1 rfl, cell_of_row g1 rfl, cell_of_row g1 rfl, cell_of_row g1 rfl⟩
set_option maxRecDepth 100000 in
set_option maxHeartbeats 2000000 in
theorem refuses_any (v : Value) (dn : Bool) (fu kk : Int) (nm tt dt : ByteArray) (fs : List DF) (w : World) (h : FsL w v fs) (hok : OkF fs) (hk4 : 1 ≤ kk ∧ kk ≤ 4) (hd : dt.size ≤ 140737488355328) :
    Calls Try.prog 24 #[.agg #[v, .bool dn, .int .i64 fu], .agg #[.int .u8 kk, .string nm, .string tt, .string dt]] w fun e w' => e = .returned (.int .i64 (chgE fs kk nm tt dt)) ∧ Below w.heap.size w w' := by
  obtain ⟨W0, hW0, hb0, hs0, hx⟩ := rfbox w v dn fu kk nm tt dt
  have HX : Hid _ := hx
  have C2 : Hid (Calls Try.prog 26 #[.agg #[v, .bool dn, .int .i64 fu], .string nm] W0 fun e w' => ∃ k : Int, e = .returned (.int .i64 k) ∧ idx nm fs k ∧ Below W0.heap.size W0 w') := refFind_any v dn fu nm fs W0 (h.below hb0)
  have C4 : Hid (∀ W, Below w.heap.size w W → Calls Try.prog 35 #[.agg #[v, .bool dn, .int .i64 fu]] W fun e w' => e = .returned (.int .i64 (szs fs)) ∧ Below W.heap.size W w') := fun W hb => refSize_any v dn fu fs W (h.below hb) hok.2.2.2
  have HB0 : Hid (Below w.heap.size w W0) := hb0
  obtain ⟨⟨x0, x1, x2⟩, y0, y1, y2, y3⟩ := hx W0 (Below.refl _ _)
  have HFL : Hid (FsL w v fs) := h
  have HOK : Hid (OkF fs) := hok
  obtain ⟨p, c, rfl, _⟩ := h
  clear hx hb0 hs0 hok
  go_enter Try.func24, Try.ntmps24
  go_wp2_with fail
  refine C2.out.mono ?_
  rintro e w2 ⟨k, rfl, hk, hb2⟩
  obtain ⟨⟨a0, a1, a2⟩, b0, b1, b2, b3⟩ := HX.out w2 hb2
  have HB2 : Hid (Below w.heap.size w w2) := HB0.out.trans (hb2.mono HB0.out.size)
  have HIX : Hid (idx nm fs k) := hk
  clear C2 hk
  by_cases h1 : kk = 1
  · subst h1
    by_cases hn : nm = ⟨#[]⟩
    · have HF : Hid (chgE fs 1 nm tt dt = 7) := by show chgE fs 1 nm tt dt = 7; unfold chgE putE; rw [if_pos rfl, if_pos hn]
      subst hn
      clear C4 HIX hk4
      go_wp2_with fail
      go_ret
      exact ⟨by rw [HF.out]; rfl, HB2.out⟩
    · obtain ⟨e1, e2⟩ := ne_empty hn
      have HCE : Hid (chgE fs 1 nm tt dt = if 1048576 < dt.size + szs (wo nm fs) then 8 else 0) := by show chgE fs 1 nm tt dt = _; unfold chgE putE; rw [if_pos rfl, if_neg hn]
      have hz : szs fs ≤ 1048576 := HOK.out.2.2.2
      rcases HIX.out with ⟨hh, rfl⟩ | ⟨j, rfl, hj, hjn, hh, hfd⟩
      · have hcd := HCE.out
        rw [wo_none hh] at hcd
        obtain ⟨s, hs⟩ : ∃ s, szs fs = s := ⟨_, rfl⟩
        rw [hs] at hcd hz
        rw [show s = s - 0 from rfl] at hcd
        have px : ∀ l : LaterS w2.heap.size w2, (l.w.cell? ⟨w.heap.size, 0, none⟩ = some (.slice p fs.length c) ∧ l.w.cell? ⟨w.heap.size, 1, none⟩ = some (.bool dn) ∧ l.w.cell? ⟨w.heap.size, 2, none⟩ = some (.int .i64 fu)) ∧ l.w.cell? ⟨w.heap.size + 1, 3, none⟩ = some (.string dt) := fun l => ⟨(HX.out l.w (hb2.trans (l.h.mono hb2.size))).1, (HX.out l.w (hb2.trans (l.h.mono hb2.size))).2.2.2.2⟩
        have CZ : Hid (∀ l : LaterS w2.heap.size w2, Calls Try.prog 35 #[.agg #[.slice p fs.length c, .bool dn, .int .i64 fu]] l.w fun e w' => e = .returned (.int .i64 (s : Int)) ∧ Below l.w.heap.size l.w w') := fun l => by rw [← hs]; exact C4.out l.w (HB2.out.trans (l.h.mono HB2.out.size))
        have px0 := fun l => (px l).1.1
        have px1 := fun l => (px l).1.2.1
        have px2 := fun l => (px l).1.2.2
        have px3 := fun l => (px l).2
        have q1 : IntKind.i64.wrap ((s : Int) - 0) = (s : Int) - 0 := by rw [IntKind.wrap_i64]; omega
        have q2 : IntKind.i64.wrap (1048576 - ((s : Int) - 0)) = 1048576 - ((s : Int) - 0) := by rw [IntKind.wrap_i64]; omega
        have HB1 : Hid (Below W0.heap.size W0 w2) := hb2
        have HE : Hid (chgE fs 1 nm tt dt = if 1048576 < dt.size + (s - 0) then 8 else 0) := hcd
        clear hcd hs HCE C4 HIX hk4 hn hh px hb2
        go_wp2_with fail
        have inhL := laterInh
        refine wp_region_laterS mixedOnS (by kernel_rfl) ?_
        repeat (go_big_quiet_step ((go_at_call 35; exact calls_laterS (CZ.out _))))
        refine wpQuiet_nil ?_
        intro w3 hw'
        obtain ⟨⟨wq, hwq⟩, hw''⟩ := hw'
        subst hw''
        have HB3 : Hid (Below w.heap.size w w3) := HB2.out.trans (hwq.mono HB2.out.size)
        clear hwq px0 px1 px2 px3 CZ
        by_cases hbig : 1048576 < dt.size + (s - 0)
        · have HF : Hid (chgE fs 1 nm tt dt = 8) := by show _ = _; rw [HE.out, if_pos hbig]
          have t1 : 1048576 - ((s : Int) - 0) < (dt.size : Int) := by omega
          clear HE hbig
          go_wp2_with fail
          go_ret
          exact ⟨by rw [HF.out]; rfl, HB3.out⟩
        · have HF : Hid (chgE fs 1 nm tt dt = 0) := by show _ = _; rw [HE.out, if_neg hbig]
          have t1 : ¬ 1048576 - ((s : Int) - 0) < (dt.size : Int) := by omega
          clear HE hbig
          go_wp2_with fail
          go_ret
          exact ⟨by rw [HF.out]; rfl, HB3.out⟩
      · have hcd := HCE.out
        have hw := szs_wo_eq HOK.out.2.1 (List.getElem_mem hj)
        rw [hjn] at hw
        obtain ⟨_, _, hq, _, _, hp⟩ := HFL.out
        simp only [Value.slice.injEq, true_and] at hq
        obtain ⟨rfl, rfl⟩ := hq
        obtain ⟨b, o, rfl, hlt, hc⟩ := hp (by omega)
        obtain ⟨c0, c1, c2⟩ := (hc.below hlt HB2.out) j hj
        obtain ⟨⟨n, d, y⟩, hf⟩ : ∃ f, fs[j] = f := ⟨_, rfl⟩
        rw [hf] at c0 c1 c2 hw
        simp only at c0 c1 c2 hw
        have z0 : (0 : Int) ≤ (j : Int) := by omega
        have z1 : (j : Int) < (fs.length : Int) := by omega
        have z2 : ¬ (j : Int) < 0 := by omega
        obtain ⟨s, hs⟩ : ∃ s, szs fs = s := ⟨_, rfl⟩
        rw [hs] at hz hw
        have hw2 : szs (wo nm fs) = s - d.size := by omega
        have hw3 : d.size ≤ s := by omega
        rw [hw2] at hcd
        clear hw hw2 hf hc hp hjn hfd
        have px : ∀ l : LaterS w2.heap.size w2, (l.w.cell? ⟨w.heap.size, 0, none⟩ = some (.slice (some ⟨b, o, none⟩) fs.length c) ∧ l.w.cell? ⟨w.heap.size, 1, none⟩ = some (.bool dn) ∧ l.w.cell? ⟨w.heap.size, 2, none⟩ = some (.int .i64 fu)) ∧ l.w.cell? ⟨w.heap.size + 1, 3, none⟩ = some (.string dt) := fun l => ⟨(HX.out l.w (hb2.trans (l.h.mono hb2.size))).1, (HX.out l.w (hb2.trans (l.h.mono hb2.size))).2.2.2.2⟩
        have CZ : Hid (∀ l : LaterS w2.heap.size w2, Calls Try.prog 35 #[.agg #[.slice (some ⟨b, o, none⟩) fs.length c, .bool dn, .int .i64 fu]] l.w fun e w' => e = .returned (.int .i64 (s : Int)) ∧ Below l.w.heap.size l.w w') := fun l => by rw [← hs]; exact C4.out l.w (HB2.out.trans (l.h.mono HB2.out.size))
        have px0 := fun l => (px l).1.1
        have px1 := fun l => (px l).1.2.1
        have px2 := fun l => (px l).1.2.2
        have px3 := fun l => (px l).2
        have q1 : IntKind.i64.wrap ((s : Int) - (d.size : Int)) = (s : Int) - (d.size : Int) := by rw [IntKind.wrap_i64]; omega
        have q2 : IntKind.i64.wrap (1048576 - ((s : Int) - (d.size : Int))) = 1048576 - ((s : Int) - (d.size : Int)) := by rw [IntKind.wrap_i64]; omega
        have HB1 : Hid (Below W0.heap.size W0 w2) := hb2
        have HE : Hid (chgE fs 1 nm tt dt = if 1048576 < dt.size + (s - d.size) then 8 else 0) := hcd
        clear hcd hs HCE C4 HIX hk4 hn hh px hb2
        go_wp2_with fail
        have inhL := laterInh
        refine wp_region_laterS mixedOnS (by kernel_rfl) ?_
        repeat (go_big_quiet_step ((go_at_call 35; exact calls_laterS (CZ.out _))))
        refine wpQuiet_nil ?_
        intro w3 hw'
        obtain ⟨⟨wq, hwq⟩, hw''⟩ := hw'
        subst hw''
        have HB3 : Hid (Below w.heap.size w w3) := HB2.out.trans (hwq.mono HB2.out.size)
        clear hwq px0 px1 px2 px3 CZ
        by_cases hbig : 1048576 < dt.size + (s - d.size)
        · have HF : Hid (chgE fs 1 nm tt dt = 8) := by show _ = _; rw [HE.out, if_pos hbig]
          have t1 : 1048576 - ((s : Int) - (d.size : Int)) < (dt.size : Int) := by omega
          clear HE hbig
          go_wp2_with fail
          go_ret
          exact ⟨by rw [HF.out]; rfl, HB3.out⟩
        · have HF : Hid (chgE fs 1 nm tt dt = 0) := by show _ = _; rw [HE.out, if_neg hbig]
          have t1 : ¬ 1048576 - ((s : Int) - (d.size : Int)) < (dt.size : Int) := by omega
          clear HE hbig
          go_wp2_with fail
          go_ret
          exact ⟨by rw [HF.out]; rfl, HB3.out⟩
  · have k1 : (kk == 1) = false := by simpa using h1
    have k2 : (kk != 1) = true := by simpa using h1
    rcases HIX.out with ⟨hh, rfl⟩ | ⟨j, rfl, hj, hjn, hh, hfd⟩
    · have HF : Hid (chgE fs kk nm tt dt = 7) := by
        show chgE fs kk nm tt dt = 7
        unfold chgE synE movE
        rw [if_neg h1, hh]
        simp
      clear C4 HIX hk4 hh
      go_wp2_with fail
      go_ret
      exact ⟨by rw [HF.out]; rfl, HB2.out⟩
    · have z2 : ¬ (j : Int) < 0 := by omega
      by_cases h3 : kk = 3
      · subst h3
        by_cases hn : tt = ⟨#[]⟩
        · have HF : Hid (chgE fs 3 nm tt dt = 7) := by
            show chgE fs 3 nm tt dt = 7
            unfold chgE movE
            rw [if_neg (by omega), if_neg (by omega), if_pos rfl, hh, if_pos rfl, if_pos hn]
          subst hn
          clear C4 HIX hk4 hh hjn hfd
          go_wp2_with fail
          go_ret
          exact ⟨by rw [HF.out]; rfl, HB2.out⟩
        · obtain ⟨e1, e2⟩ := ne_empty hn
          have HF : Hid (chgE fs 3 nm tt dt = 0) := by
            show chgE fs 3 nm tt dt = 0
            unfold chgE movE
            rw [if_neg (by omega), if_neg (by omega), if_pos rfl, hh, if_pos rfl, if_neg hn]
          clear C4 HIX hk4 hh hjn hfd hn
          go_wp2_with fail
          go_ret
          exact ⟨by rw [HF.out]; rfl, HB2.out⟩
      · have k3 : (kk == 3) = false := by simpa using h3
        have HF : Hid (chgE fs kk nm tt dt = 0) := by
          show chgE fs kk nm tt dt = 0
          unfold chgE synE
          rw [if_neg h1, hh, if_neg h3]
          simp
        clear C4 HIX hk4 hh hjn hfd
        go_wp2_with fail
        go_ret
        exact ⟨by rw [HF.out]; rfl, HB2.out⟩
end Go.Proofs.Ytedjfbkpebmggaa
