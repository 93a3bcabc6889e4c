/- The law ValueBags returns true. -/
import Derived.Test.YtaekbmpiohmciaaDoorXl
import Derived.Test.YtaekbmpiohmciaaDoorSortsWalk
namespace Go.Proofs.YtaekbmpiohmciaaDoor
open Go.Shelf Go.RowKit Go.Lib Go.Sort
set_option linter.unusedVariables false
set_option linter.unusedSimpArgs false
attribute [local go_sem ↓] Go.wp_at_zero Go.wp_at_succ
set_option maxRecDepth 100000 in
set_option maxHeartbeats 8000000 in
theorem bags_core (v u : Value) (xs ys : List (List Val)) (w : World) (h1 : RowsL w v xs) (h2 : RowsL w u ys) (hn : (xs.length + 1) * 24 ≤ 140737488355328) (hr : ∀ r ∈ xs, r.length * 32 ≤ 140737488355328) (hs : ∀ r ∈ xs, SmallR r) (hT : Lib.Utf8Tabs 0 1 w) (t : Bool) (ht : t = true ↔ xs.Perm ys) :
    Calls Tryd.prog 6 #[v, u] w fun e w' => e = .returned (.bool true) ∧ Below w.heap.size w w' := by
  have HV : Hid (RowsL w v xs) := h1
  have HU : Hid (RowsL w u ys) := h2
  have HR : Hid (∀ r ∈ xs, r.length * 32 ≤ 140737488355328) := hr
  have HS : Hid (∀ r ∈ xs, SmallR r) := hs
  have HT : Hid (Lib.Utf8Tabs 0 1 w) := hT
  have Ht : Hid (t = true ↔ xs.Perm ys) := ht
  clear h1 h2 hr hs hT ht
  go_enter Tryd.func6, Tryd.ntmps6
  go_wp2_with fail
  refine (refCopy_any v xs w HV.out (by omega) HR.out).mono ?_
  rintro e w1 ⟨g, rfl, hG⟩
  have HG : Hid (RowsL w1 g xs) := hG.rows (by omega)
  have HB1 : Hid (Below w.heap.size w w1) := hG.below
  clear hG
  go_wp2_with fail
  refine (lives_any w1 (Utf8Tabs_below HT.out HB1.out)).mono ?_
  rintro e w2 ⟨rfl, hb2⟩
  have HB2 : Hid (Below w1.heap.size w1 w2) := hb2
  have HW2 : Hid (Below w.heap.size w w2) := HB1.out.trans (hb2.mono HB1.out.size)
  clear hb2
  go_wp2_with fail
  refine (sort_any g xs w2 (HG.out.below HB2.out) (by omega) HR.out (Utf8Tabs_below HT.out HW2.out)).mono ?_
  rintro e w3 ⟨s1, out, rfl, hS, hO, hb3⟩
  have HI : Hid (IsSort xs xs.length out) := hS
  have HO : Hid (RowsL w3 s1 out) := hO.rows (by rw [hS.length]; omega)
  have HB3 : Hid (Below w1.heap.size w1 w3) := HB2.out.trans (hb3.mono HB2.out.size)
  have HW3 : Hid (Below w.heap.size w w3) := HW2.out.trans (hb3.mono HW2.out.size)
  clear hS hO hb3 HB2 HW2
  go_wp2_with fail
  refine (refSort_any v xs w3 (HV.out.below HW3.out) (by omega) HR.out HS.out).mono ?_
  rintro e w4 ⟨s2, out2, rfl, hS2, hO2, hb4⟩
  have e2 : out2 = out := hS2.one HI.out
  subst e2
  have HO2 : Hid (RowsL w4 s2 out2) := hO2
  have HO4 : Hid (RowsL w4 s1 out2) := HO.out.below hb4
  have HB4 : Hid (Below w1.heap.size w1 w4) := HB3.out.trans (hb4.mono HB3.out.size)
  have HW4 : Hid (Below w.heap.size w w4) := HW3.out.trans (hb4.mono HW3.out.size)
  clear hS2 hO2 hb4 HB3 HW3 HO
  go_wp2_with fail
  have cs := same_any s1 s2 out2 out2 w4 HO4.out HO2.out
  rw [(sameRs_iff out2 out2).2 rfl] at cs
  refine cs.mono ?_
  rintro e w5 ⟨rfl, hb5⟩
  have HB5 : Hid (Below w1.heap.size w1 w5) := HB4.out.trans (hb5.mono HB4.out.size)
  have HW5 : Hid (Below w.heap.size w w5) := HW4.out.trans (hb5.mono HW4.out.size)
  clear cs hb5 HB4 HW4 HO4 HO2
  go_wp2_with fail
  refine (sameBag_is g u xs ys w5 (HG.out.below HB5.out) (HU.out.below HW5.out) (by omega) t Ht.out).mono ?_
  rintro e w6 ⟨rfl, hb6⟩
  have HB6 : Hid (Below w1.heap.size w1 w6) := HB5.out.trans (hb6.mono HB5.out.size)
  have HW6 : Hid (Below w.heap.size w w6) := HW5.out.trans (hb6.mono HW5.out.size)
  clear hb6 HB5 HW5
  go_wp2_with fail
  refine (refBag_any v u xs ys w6 (HV.out.below HW6.out) (HU.out.below HW6.out) (by omega) t Ht.out).mono ?_
  rintro e w7 ⟨rfl, hb7⟩
  have HB7 : Hid (Below w1.heap.size w1 w7) := HB6.out.trans (hb7.mono HB6.out.size)
  have HW7 : Hid (Below w.heap.size w w7) := HW6.out.trans (hb7.mono HW6.out.size)
  clear hb7 HB6 HW6
  have htt : (t == t) = true := by cases t <;> rfl
  go_wp2_with fail
  have cs := same_any g v xs xs w7 (HG.out.below HB7.out) (HV.out.below HW7.out)
  rw [(sameRs_iff xs xs).2 rfl] at cs
  refine cs.mono ?_
  rintro e w8 ⟨rfl, hb8⟩
  have HW8 : Hid (Below w.heap.size w w8) := HW7.out.trans (hb8.mono HW7.out.size)
  clear cs hb8
  go_wp2_with fail
  go_ret
  exact ⟨rfl, HW8.out⟩
end Go.Proofs.YtaekbmpiohmciaaDoor
