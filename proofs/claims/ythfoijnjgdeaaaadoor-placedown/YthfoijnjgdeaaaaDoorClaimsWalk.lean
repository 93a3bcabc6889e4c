/- The law PlaceClaims returns true. -/
import Derived.Test.YthfoijnjgdeaaaaDoorCgCh
namespace Go.Proofs.YthfoijnjgdeaaaaDoor
open Go.Shelf Go.RowKit Go.Lib Go.Sort
set_option linter.unusedVariables false
set_option linter.unusedSimpArgs false
attribute [local go_sem ↓] Go.wp_at_zero Go.wp_at_succ
/-- What a walk keeps of a layout's box and a claim's. -/
def BoxC (w W : World) (N S R : Int) (nm : ByteArray) (vc : Value) (vb vl : Int) (vo : Value) : Prop :=
  Below w.heap.size w W ∧ w.heap.size + 2 ≤ W.heap.size ∧ (W.cell? ⟨w.heap.size, 0, none⟩ = some (.int .i64 N) ∧ W.cell? ⟨w.heap.size, 1, none⟩ = some (.int .i64 S) ∧ W.cell? ⟨w.heap.size, 2, none⟩ = some (.int .i64 R)) ∧
    W.cell? ⟨w.heap.size + 1, 0, none⟩ = some (.string nm) ∧ W.cell? ⟨w.heap.size + 1, 1, none⟩ = some vc ∧ W.cell? ⟨w.heap.size + 1, 2, none⟩ = some (.int .u64 vb) ∧ W.cell? ⟨w.heap.size + 1, 3, none⟩ = some (.int .u64 vl) ∧ W.cell? ⟨w.heap.size + 1, 4, none⟩ = some vo
theorem BoxC.below {w W W' : World} {N S R : Int} {nm : ByteArray} {vc : Value} {vb vl : Int} {vo : Value} (h : BoxC w W N S R nm vc vb vl vo) (hb : Below W.heap.size W W') : BoxC w W' N S R nm vc vb vl vo := by
  obtain ⟨a, b, ⟨c0, c1, c2⟩, d0, d1, d2, d3, d4⟩ := h
  have k : ∀ i j, i < w.heap.size + 2 → W'.cell? ⟨i, j, none⟩ = W.cell? ⟨i, j, none⟩ := fun i j hi => hb.cell (p := ⟨i, j, none⟩) (by show i < _; omega)
  refine ⟨a.trans (hb.mono a.size), Nat.le_trans b hb.size, ⟨?_, ?_, ?_⟩, ?_, ?_, ?_, ?_, ?_⟩
  · rw [k _ _ (by omega)]; exact c0
  · rw [k _ _ (by omega)]; exact c1
  · rw [k _ _ (by omega)]; exact c2
  · rw [k _ _ (by omega)]; exact d0
  · rw [k _ _ (by omega)]; exact d1
  · rw [k _ _ (by omega)]; exact d2
  · rw [k _ _ (by omega)]; exact d3
  · rw [k _ _ (by omega)]; exact d4
theorem BoxC.start (w : World) (N S R : Int) (nm : ByteArray) (vc : Value) (vb vl : Int) (vo : Value) : BoxC w ((w.alloc (.cells #[.int .i64 N, .int .i64 S, .int .i64 R] 23)).alloc (.cells #[.string nm, vc, .int .u64 vb, .int .u64 vl, vo] 49)) N S R nm vc vb vl vo :=
  ⟨two_below w _ _, by simp, ⟨two_first w _ _ _ _ _ rfl, two_first w _ _ _ _ _ rfl, two_first w _ _ _ _ _ rfl⟩, two_second w _ _ _ _ _ rfl, two_second w _ _ _ _ _ rfl, two_second w _ _ _ _ _ rfl, two_second w _ _ _ _ _ rfl, two_second w _ _ _ _ _ rfl⟩
set_option maxRecDepth 100000 in
set_option maxHeartbeats 2000000 in
theorem claims_core (N S R : Int) (nm : ByteArray) (pc : Option Addr) (mc cc : Nat) (cs : List Col) (vb vl : Int) (vo : Value) (os : List (List Int)) (va : Value) (al : List Bool) (w : World) (hs : nm.size ≤ 9223372036854775807) (hT : Lib.Utf8Tabs 0 1 w) (hc : ColA w (.slice pc mc cc) cs) (ho : OwnsL w vo os) (ha : BoolsL w va al) :
    Calls Tryd.prog 4 #[.agg #[.int .i64 N, .int .i64 S, .int .i64 R], .agg #[.string nm, .slice pc mc cc, .int .u64 vb, .int .u64 vl, vo], va] w fun e w' => e = .returned (.bool true) ∧ Below w.heap.size w w' := by
  obtain ⟨E1, hE1⟩ : ∃ E, pkE N S R nm cs os al = E := ⟨_, rfl⟩
  obtain ⟨zs, hzs⟩ : ∃ zs, zsP N S R nm cs os al = zs := ⟨_, rfl⟩
  obtain ⟨E2, hE2⟩ : ∃ E, claimE N S R nm cs os = E := ⟨_, rfl⟩
  have C1 : Hid (∀ W, Below w.heap.size w W → Calls Tryd.prog 20 #[.agg #[.int .i64 N, .int .i64 S, .int .i64 R], .agg #[.string nm, .slice pc mc cc, .int .u64 vb, .int .u64 vl, vo], va] W fun e w' => ∃ u, e = .returned (.tuple #[u, .int .i64 E1]) ∧ IntsL w' u zs ∧ Below W.heap.size W w') := fun W h => by rw [← hE1, ← hzs]; exact pick_any N S R nm pc mc cc cs vb vl vo os va al W hs (Utf8Tabs_below hT h) (hc.below h) (ho.below h) (ha.below h)
  have C2 : Hid (∀ W, Below w.heap.size w W → Calls Tryd.prog 21 #[.agg #[.int .i64 N, .int .i64 S, .int .i64 R], .agg #[.string nm, .slice pc mc cc, .int .u64 vb, .int .u64 vl, vo], va] W fun e w' => ∃ u, e = .returned (.tuple #[u, .int .i64 E1]) ∧ IntsL w' u zs ∧ Below W.heap.size W w') := fun W h => by rw [← hE1, ← hzs]; exact refPick_any N S R nm pc mc cc cs vb vl vo os va al W (hc.below h) (ho.below h) (ha.below h)
  have C3 : Hid (∀ W, Below w.heap.size w W → Calls Tryd.prog 22 #[.agg #[.int .i64 N, .int .i64 S, .int .i64 R], .agg #[.string nm, .slice pc mc cc, .int .u64 vb, .int .u64 vl, vo]] W fun e w' => e = .returned (.int .i64 E2) ∧ Below W.heap.size W w') := fun W h => by rw [← hE2]; exact claim_any N S R nm pc mc cc cs vb vl vo os W hs (Utf8Tabs_below hT h) (hc.below h) (ho.below h)
  have C4 : Hid (∀ W, Below w.heap.size w W → Calls Tryd.prog 23 #[.agg #[.int .i64 N, .int .i64 S, .int .i64 R], .agg #[.string nm, .slice pc mc cc, .int .u64 vb, .int .u64 vl, vo]] W fun e w' => e = .returned (.int .i64 E2) ∧ Below W.heap.size W w') := fun W h => by rw [← hE2]; exact refClaim_any N S R nm pc mc cc cs vb vl vo os W (hc.below h) (ho.below h)
  obtain ⟨po, co, rfl, _, _⟩ := ho
  obtain ⟨pa, ca, rfl, _, _⟩ := ha
  have a1 : (E1 == E1) = true := by simp
  have a2 : (E2 == E2) = true := by simp
  clear hE1 hzs hE2 hT hc hs
  go_enter Tryd.func4, Tryd.ntmps4
  go_wp2_with fail
  refine (C1.out _ (two_below w _ _)).mono ?_
  rintro e w1 ⟨u1, rfl, hI1, hb1⟩
  have HI1 : Hid (IntsL w1 u1 zs) := hI1
  have HX1 : Hid (BoxC w w1 N S R nm (.slice pc mc cc) vb vl (.slice po os.length co)) := (BoxC.start w N S R nm _ vb vl _).below hb1
  obtain ⟨_, _, ⟨x10, x11, x12⟩, x13, x14, x15, x16, x17⟩ := HX1.out
  clear hI1 hb1
  go_wp2_with fail
  refine (C2.out _ HX1.out.1).mono ?_
  rintro e w2 ⟨u2, rfl, hI2, hb2⟩
  have HI2 : Hid (IntsL w2 u1 zs ∧ IntsL w2 u2 zs) := ⟨HI1.out.below hb2, hI2⟩
  have HX2 : Hid (BoxC w w2 N S R nm (.slice pc mc cc) vb vl (.slice po os.length co)) := HX1.out.below hb2
  clear x10 x11 x12 x13 x14 x15 x16 x17 HX1 HI1 hI2 hb2
  have D1 : Hid (∀ q : LaterS w2.heap.size w2, Calls Tryd.prog 15 #[] q.w fun e w' => e = .returned (.bool true) ∧ Below q.w.heap.size q.w w') := fun q => layLives_any q.w
  have D2 : Hid (∀ q : LaterS w2.heap.size w2, Calls Tryd.prog 16 #[u1, u2] q.w fun e w' => e = .returned (.bool true) ∧ Below q.w.heap.size q.w w') := fun q => by
    have := ints_any u1 u2 zs zs q.w (HI2.out.1.below q.h) (HI2.out.2.below q.h)
    rwa [(sameI_iff zs zs).2 rfl] at this
  have D3 : Hid (∀ q : LaterS w2.heap.size w2, Calls Tryd.prog 22 #[.agg #[.int .i64 N, .int .i64 S, .int .i64 R], .agg #[.string nm, .slice pc mc cc, .int .u64 vb, .int .u64 vl, .slice po os.length co]] q.w fun e w' => e = .returned (.int .i64 E2) ∧ Below q.w.heap.size q.w w') := fun q => C3.out q.w (HX2.out.below q.h).1
  have D4 : Hid (∀ q : LaterS w2.heap.size w2, Calls Tryd.prog 23 #[.agg #[.int .i64 N, .int .i64 S, .int .i64 R], .agg #[.string nm, .slice pc mc cc, .int .u64 vb, .int .u64 vl, .slice po os.length co]] q.w fun e w' => e = .returned (.int .i64 E2) ∧ Below q.w.heap.size q.w w') := fun q => C4.out q.w (HX2.out.below q.h).1
  have p0 : ∀ q : LaterS w2.heap.size w2, q.w.cell? ⟨w.heap.size, 0, none⟩ = some (.int .i64 N) := fun q => (HX2.out.below q.h).2.2.1.1
  have p1 : ∀ q : LaterS w2.heap.size w2, q.w.cell? ⟨w.heap.size, 1, none⟩ = some (.int .i64 S) := fun q => (HX2.out.below q.h).2.2.1.2.1
  have p2 : ∀ q : LaterS w2.heap.size w2, q.w.cell? ⟨w.heap.size, 2, none⟩ = some (.int .i64 R) := fun q => (HX2.out.below q.h).2.2.1.2.2
  have p3 : ∀ q : LaterS w2.heap.size w2, q.w.cell? ⟨w.heap.size + 1, 0, none⟩ = some (.string nm) := fun q => (HX2.out.below q.h).2.2.2.1
  have p4 : ∀ q : LaterS w2.heap.size w2, q.w.cell? ⟨w.heap.size + 1, 1, none⟩ = some (.slice pc mc cc) := fun q => (HX2.out.below q.h).2.2.2.2.1
  have p5 : ∀ q : LaterS w2.heap.size w2, q.w.cell? ⟨w.heap.size + 1, 2, none⟩ = some (.int .u64 vb) := fun q => (HX2.out.below q.h).2.2.2.2.2.1
  have p6 : ∀ q : LaterS w2.heap.size w2, q.w.cell? ⟨w.heap.size + 1, 3, none⟩ = some (.int .u64 vl) := fun q => (HX2.out.below q.h).2.2.2.2.2.2.1
  have p7 : ∀ q : LaterS w2.heap.size w2, q.w.cell? ⟨w.heap.size + 1, 4, none⟩ = some (.slice po os.length co) := fun q => (HX2.out.below q.h).2.2.2.2.2.2.2
  go_wp2_with fail
  have inhL := laterInh
  refine wp_region_laterS mixedOnS (by kernel_rfl) ?_
  repeat (go_big_quiet_step (first | (go_at_call 15; exact calls_laterS (D1.out _)) | (go_at_call 16; exact calls_laterS (D2.out _)) | (go_at_call 22; exact calls_laterS (D3.out _)) | (go_at_call 23; exact calls_laterS (D4.out _))))
  refine wpQuiet_nil ?_
  intro w9 hw'
  obtain ⟨⟨wq, hwq⟩, hw''⟩ := hw'
  subst hw''
  have HW9 : Hid (Below w.heap.size w w9) := HX2.out.1.trans (hwq.mono HX2.out.1.size)
  clear hwq p0 p1 p2 p3 p4 p5 p6 p7
  go_wp2_with fail
  go_ret
  exact ⟨rfl, HW9.out⟩
end Go.Proofs.YthfoijnjgdeaaaaDoor
