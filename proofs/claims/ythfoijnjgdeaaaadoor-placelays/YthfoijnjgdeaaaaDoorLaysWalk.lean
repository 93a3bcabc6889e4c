/- The law PlaceLays returns true. -/
import Derived.Test.YthfoijnjgdeaaaaDoorPpPqPr
namespace Go.Proofs.YthfoijnjgdeaaaaDoor
open Go.Shelf Go.RowKit Go.Lib Go.Sort
set_option linter.unusedVariables false
set_option linter.unusedSimpArgs false
attribute [local go_sem ↓] Go.wp_at_zero Go.wp_at_succ
set_option maxRecDepth 100000 in
set_option maxHeartbeats 2000000 in
theorem lays_core (N S R sh : Int) (pz : Option Addr) (nz cz : Nat) (xr : List Val) (nm : ByteArray) (pc : Option Addr) (mc cc : Nat) (cs : List Col) (pr : Option Addr) (cr : Nat) (rs : List (List Val)) (w : World) (hs : nm.size ≤ 9223372036854775807) (hT : Lib.Utf8Tabs 0 1 w) (hrow : RowV w (.slice pz nz cz) xr) (hx : ∀ x ∈ xr, 0 ≤ x.k ∧ x.k ≤ 255 ∧ x.s.size ≤ 140737488351232) (hc : ColA w (.slice pc mc cc) cs) (hr : RowsA w pr rs) (hk : ∀ r ∈ rs, ∀ x ∈ r, 0 ≤ x.k) :
    Calls Tryd.prog 3 #[.agg #[.int .i64 N, .int .i64 S, .int .i64 R], .int .i64 sh, .slice pz nz cz, .agg #[.string nm, .slice pc mc cc, .slice pr rs.length cr]] w fun e w' => e = .returned (.bool true) ∧ Below w.heap.size w w' := by
  obtain ⟨E1, hE1⟩ : ∃ E, ownE N S R sh = E := ⟨_, rfl⟩
  obtain ⟨zs, hzs⟩ : ∃ zs, zsO N S R sh = zs := ⟨_, rfl⟩
  obtain ⟨D, hD⟩ : ∃ D, shV N S R xr = D := ⟨_, rfl⟩
  obtain ⟨E2, hE2⟩ : ∃ E, shE N S R xr = E := ⟨_, rfl⟩
  obtain ⟨E3, hE3⟩ : ∃ E, splitE N S R nm cs rs = E := ⟨_, rfl⟩
  obtain ⟨n, hn⟩ : ∃ n, shN N S R nm cs rs = n := ⟨_, rfl⟩
  obtain ⟨E4, hE4⟩ : ∃ E, layE N S R = E := ⟨_, rfl⟩
  have hn8 : n ≤ 8 := by rw [← hn]; exact shN_le _ _ _ _ _ _
  have C1 : Hid (∀ W, Calls Tryd.prog 9 #[.agg #[.int .i64 N, .int .i64 S, .int .i64 R], .int .i64 sh] W fun e w' => ∃ u, e = .returned (.tuple #[u, .int .i64 E1]) ∧ IntsL w' u zs ∧ Below W.heap.size W w') := fun W => by rw [← hE1, ← hzs]; exact ownersAll_any N S R sh W
  have C2 : Hid (∀ W, Calls Tryd.prog 10 #[.agg #[.int .i64 N, .int .i64 S, .int .i64 R], .int .i64 sh] W fun e w' => ∃ u, e = .returned (.tuple #[u, .int .i64 E1]) ∧ IntsL w' u zs ∧ Below W.heap.size W w') := fun W => by rw [← hE1, ← hzs]; exact refOwnersAll_any N S R sh W
  have C3 : Hid (∀ W, Below w.heap.size w W → Calls Tryd.prog 11 #[.agg #[.int .i64 N, .int .i64 S, .int .i64 R], .slice pz nz cz] W fun e w' => e = .returned (.tuple #[.int .i64 D, .int .i64 E2]) ∧ Below W.heap.size W w') := fun W h => by rw [← hD, ← hE2]; exact shardAll_any N S R _ xr W (hrow.below h) hx
  have C4 : Hid (∀ W, Below w.heap.size w W → Calls Tryd.prog 12 #[.agg #[.int .i64 N, .int .i64 S, .int .i64 R], .slice pz nz cz] W fun e w' => e = .returned (.tuple #[.int .i64 D, .int .i64 E2]) ∧ Below W.heap.size W w') := fun W h => by rw [← hD, ← hE2]; exact refShard_any N S R _ xr W (hrow.below h) hx
  have C5 : Hid (∀ W, Below w.heap.size w W → Calls Tryd.prog 13 #[.agg #[.int .i64 N, .int .i64 S, .int .i64 R], .agg #[.string nm, .slice pc mc cc, .slice pr rs.length cr]] W fun e w' => ∃ p, e = .returned (.tuple #[.slice p n n, .int .i64 E3]) ∧ Below W.heap.size W w' ∧ ShJ w' p n (partOf S rs)) := fun W h => by rw [← hE3, ← hn]; exact splitAll_any N S R nm pc mc cc cs pr cr rs W hs (Utf8Tabs_below hT h) (hc.below h) (hr.below h) hk
  have C6 : Hid (∀ W, Below w.heap.size w W → Calls Tryd.prog 14 #[.agg #[.int .i64 N, .int .i64 S, .int .i64 R], .agg #[.string nm, .slice pc mc cc, .slice pr rs.length cr]] W fun e w' => ∃ p, e = .returned (.tuple #[.slice p n n, .int .i64 E3]) ∧ Below W.heap.size W w' ∧ ShJ w' p n (partOf S rs)) := fun W h => by rw [← hE3, ← hn]; exact refSplitAll_any N S R nm pc mc cc cs pr cr rs W (hc.below h) (hr.below h) hk
  have C7 : Hid (∀ W, Calls Tryd.prog 18 #[.agg #[.int .i64 N, .int .i64 S, .int .i64 R]] W fun e w' => e = .returned (.int .i64 E4) ∧ Below W.heap.size W w') := fun W => by rw [← hE4]; exact layCheck_any N S R W
  have C8 : Hid (∀ W, Calls Tryd.prog 19 #[.agg #[.int .i64 N, .int .i64 S, .int .i64 R]] W fun e w' => e = .returned (.int .i64 E4) ∧ Below W.heap.size W w') := fun W => by rw [← hE4]; exact refLay_any N S R W
  have a1 : (E1 != E1) = false := by simp
  have a2 : (D != D) = false := by simp
  have a3 : (E2 != E2) = false := by simp
  have a4 : (E3 != E3) = false := by simp
  have a5 : ((n : Int) != (n : Int)) = false := by simp
  have a6 : (E4 == E4) = true := by simp
  clear hE1 hzs hD hE2 hE3 hn hE4 hT hrow hx hc hr hk hs
  go_enter Tryd.func3, Tryd.ntmps3
  go_wp2_with fail
  refine (C1.out _).mono ?_
  rintro e w1 ⟨u1, rfl, hI1, hb1⟩
  have HI1 : Hid (IntsL w1 u1 zs) := hI1
  have HX1 : Hid (Box2 w w1 N S R nm (.slice pc mc cc) (.slice pr rs.length cr)) := (Box2.start w N S R nm _ _).below hb1
  obtain ⟨_, _, x10, x11, x12, x13, x14, x15⟩ := HX1.out
  clear hI1 hb1
  go_wp2_with fail
  refine (C2.out _).mono ?_
  rintro e w2 ⟨u2, rfl, hI2, hb2⟩
  have HI1' : Hid (IntsL w2 u1 zs) := HI1.out.below hb2
  have HI2 : Hid (IntsL w2 u2 zs) := hI2
  have HX2 : Hid (Box2 w w2 N S R nm (.slice pc mc cc) (.slice pr rs.length cr)) := HX1.out.below hb2
  clear x10 x11 x12 x13 x14 x15 HX1 HI1 hI2 hb2
  obtain ⟨_, _, x20, x21, x22, x23, x24, x25⟩ := HX2.out
  go_wp2_with fail
  refine (C3.out _ HX2.out.1).mono ?_
  rintro e w3 ⟨rfl, hb3⟩
  have HI3 : Hid (IntsL w3 u1 zs ∧ IntsL w3 u2 zs) := ⟨HI1'.out.below hb3, HI2.out.below hb3⟩
  have HX3 : Hid (Box2 w w3 N S R nm (.slice pc mc cc) (.slice pr rs.length cr)) := HX2.out.below hb3
  clear x20 x21 x22 x23 x24 x25 HX2 HI1' HI2 hb3
  obtain ⟨_, _, x30, x31, x32, x33, x34, x35⟩ := HX3.out
  go_wp2_with fail
  refine (C4.out _ HX3.out.1).mono ?_
  rintro e w4 ⟨rfl, hb4⟩
  have HI4 : Hid (IntsL w4 u1 zs ∧ IntsL w4 u2 zs) := ⟨HI3.out.1.below hb4, HI3.out.2.below hb4⟩
  have HX4 : Hid (Box2 w w4 N S R nm (.slice pc mc cc) (.slice pr rs.length cr)) := HX3.out.below hb4
  clear x30 x31 x32 x33 x34 x35 HX3 HI3 hb4
  obtain ⟨_, _, x40, x41, x42, x43, x44, x45⟩ := HX4.out
  go_wp2_with fail
  refine (C5.out _ HX4.out.1).mono ?_
  rintro e w5 ⟨p5, rfl, hb5, hJ5⟩
  have HJ5 : Hid (ShJ w5 p5 n (partOf S rs)) := hJ5
  have HI5 : Hid (IntsL w5 u1 zs ∧ IntsL w5 u2 zs) := ⟨HI4.out.1.below hb5, HI4.out.2.below hb5⟩
  have HX5 : Hid (Box2 w w5 N S R nm (.slice pc mc cc) (.slice pr rs.length cr)) := HX4.out.below hb5
  clear x40 x41 x42 x43 x44 x45 HX4 HI4 hb5 hJ5
  obtain ⟨_, _, x50, x51, x52, x53, x54, x55⟩ := HX5.out
  go_wp2_with fail
  refine (C6.out _ HX5.out.1).mono ?_
  rintro e w6 ⟨p6, rfl, hb6, hJ6⟩
  have HJ6 : Hid (ShJ w6 p6 n (partOf S rs)) := hJ6
  have HJ56 : Hid (ShJ w6 p5 n (partOf S rs)) := HJ5.out.below hb6
  have HI6 : Hid (IntsL w6 u1 zs ∧ IntsL w6 u2 zs) := ⟨HI5.out.1.below hb6, HI5.out.2.below hb6⟩
  have HX6 : Hid (Box2 w w6 N S R nm (.slice pc mc cc) (.slice pr rs.length cr)) := HX5.out.below hb6
  clear x50 x51 x52 x53 x54 x55 HX5 HI5 hb6 hJ6 HJ5
  go_wp2_with fail
  refine (layLives_any _).mono ?_
  rintro e w7 ⟨rfl, hb7⟩
  have HB7 : Hid (Below w6.heap.size w6 w7) := hb7
  have cI : Hid (Calls Tryd.prog 16 #[u1, u2] w7 fun e w' => e = .returned (.bool true) ∧ Below w7.heap.size w7 w') := by
    have := ints_any u1 u2 zs zs w7 (HI6.out.1.below hb7) (HI6.out.2.below hb7)
    rwa [(sameI_iff zs zs).2 rfl] at this
  clear hb7
  go_wp2_with fail
  refine cI.out.mono ?_
  rintro e w8 ⟨rfl, hb8⟩
  have HB8 : Hid (Below w6.heap.size w6 w8) := HB7.out.trans (hb8.mono HB7.out.size)
  clear hb8 HB7 cI HI6
  go_wp2_with fail
  go_loopg [95] n (fun gf s95 wx => ∃ i : Nat, s95 = .int .i64 i ∧ i ≤ n ∧ n ≤ i + gf ∧ Hid (Below w6.heap.size w6 wx))
  case atStart => exact ⟨0, rfl, by omega, by omega, HB8⟩
  case round =>
    clear HB8
    obtain ⟨i, rfl, hi1, hgf, HB⟩ := hrel
    by_cases hi : i < n
    · obtain ⟨g', rfl⟩ : ∃ g', gk = g' + 1 := ⟨gk - 1, by omega⟩
      obtain ⟨ga, rfl, hga, hca⟩ := HJ56.out (by omega)
      obtain ⟨gb, rfl, hgb, hcb⟩ := HJ6.out (by omega)
      obtain ⟨qa, ma, ka, ha1, ha2⟩ := hca i hi
      obtain ⟨qb, mb, kb, hb1, hb2⟩ := hcb i hi
      have cS : Hid (∀ q : LaterS wr.heap.size wr, Calls Tryd.prog 17 #[.slice qa ma ka, .slice qb mb kb] q.w fun e w' => e = .returned (.bool true) ∧ Below q.w.heap.size q.w w') := fun q => by
        have h := HB.out.trans (q.h.mono HB.out.size)
        have := same_any _ _ (partOf S rs i) (partOf S rs i) q.w (ha2.below h) (hb2.below h)
        rwa [(sameRs_iff _ _).2 rfl] at this
      have pa : ∀ q : LaterS wr.heap.size wr, q.w.cell? ⟨ga, i, none⟩ = some (.slice qa ma ka) := fun q => by
        have h := HB.out.trans (q.h.mono HB.out.size)
        rw [h.cell (p := ⟨ga, _, none⟩) hga]; exact ha1
      have pb : ∀ q : LaterS wr.heap.size wr, q.w.cell? ⟨gb, i, none⟩ = some (.slice qb mb kb) := fun q => by
        have h := HB.out.trans (q.h.mono HB.out.size)
        rw [h.cell (p := ⟨gb, _, none⟩) hgb]; exact hb1
      have hz0 : (0 : Int) ≤ (i : Int) := by omega
      have hz1 : (i : Int) < (n : Int) := by omega
      clear ha1 ha2 hb1 hb2 hca hcb
      go_wp2_with fail
      have inhL := laterInh
      refine wp_region_laterS mixedOnS (by kernel_rfl) ?_
      repeat (go_big_quiet_step ((go_at_call 17; exact calls_laterS (cS.out _))))
      refine wpQuiet_nil ?_
      intro w9 hw'
      obtain ⟨⟨wq, hwq⟩, hw''⟩ := hw'
      subst hw''
      have HB9 : Hid (Below w6.heap.size w6 w9) := HB.out.trans (hwq.mono HB.out.size)
      clear hwq pa pb
      go_wp2_with fail
      go_roundg g'
      case measure => omega
      case rel => exact ⟨i + 1, by go_num, by omega, by omega, HB9⟩
    · have hz1 : ¬ (i : Int) < (n : Int) := by omega
      have HXr : Hid (Box2 w wr N S R nm (.slice pc mc cc) (.slice pr rs.length cr)) := HX6.out.below HB.out
      have px0 : ∀ q : LaterS wr.heap.size wr, q.w.cell? ⟨w.heap.size, 0, none⟩ = some (.int .i64 N) := fun q => (HXr.out.below q.h).2.2.1
      have px1 : ∀ q : LaterS wr.heap.size wr, q.w.cell? ⟨w.heap.size, 1, none⟩ = some (.int .i64 S) := fun q => (HXr.out.below q.h).2.2.2.1
      have px2 : ∀ q : LaterS wr.heap.size wr, q.w.cell? ⟨w.heap.size, 2, none⟩ = some (.int .i64 R) := fun q => (HXr.out.below q.h).2.2.2.2.1
      clear HJ56 HJ6
      go_wp2_with fail
      have inhL := laterInh
      refine wp_region_laterS mixedOnS (by kernel_rfl) ?_
      repeat (go_big_quiet_step (first | (go_at_call 18; exact calls_laterS (C7.out _)) | (go_at_call 19; exact calls_laterS (C8.out _))))
      refine wpQuiet_nil ?_
      intro w9 hw'
      obtain ⟨⟨wq, hwq⟩, hw''⟩ := hw'
      subst hw''
      have HW9 : Hid (Below w.heap.size w w9) := HXr.out.1.trans (hwq.mono HXr.out.1.size)
      clear hwq px0 px1 px2
      go_wp2_with fail
      go_ret
      exact ⟨rfl, HW9.out⟩
end Go.Proofs.YthfoijnjgdeaaaaDoor
