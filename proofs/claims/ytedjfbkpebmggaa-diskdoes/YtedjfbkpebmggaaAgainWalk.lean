/- The law DiskAgain returns true, of any disk. -/
import Derived.Test.YtedjfbkpebmggaaDv
namespace Go.Proofs.Ytedjfbkpebmggaa
open Go.Shelf Go.RowKit Go.Lib Go.Sort
set_option linter.unusedVariables false
set_option linter.unusedSimpArgs false
attribute [local go_sem ↓] Go.wp_at_zero Go.wp_at_succ
theorem FsL.len {w : World} {p : Option Addr} {n c : Nat} {fs : List DF} (h : FsL w (.slice p n c) fs) : n = fs.length := by
  obtain ⟨_, _, e, _⟩ := h
  simp only [Value.slice.injEq] at e
  exact e.2.1
theorem crF_size {keep : Int} {f : DF} (h : 0 ≤ f.y ∧ f.y ≤ (f.d.size : Int)) : ((crF keep f).d.size : Int) = lft keep f := by
  have := lft_in (keep := keep) h
  unfold crF
  simp only [ByteArray.size_extract]
  omega
theorem extract_all (b : ByteArray) : b.extract 0 b.size = b := by simp
theorem crF_again {keep again : Int} {f : DF} (h : 0 ≤ f.y ∧ f.y ≤ (f.d.size : Int)) : crF again (crF keep f) = crF keep f := by
  have hs := crF_size (keep := keep) h
  have hl := lft_in (keep := keep) h
  have hy : (crF keep f).y = lft keep f := rfl
  have e : lft again (crF keep f) = lft keep f := by
    unfold lft at *
    rw [hy]
    omega
  have e2 : crF again (crF keep f) = ⟨(crF keep f).n, (crF keep f).d.extract 0 (lft again (crF keep f)).toNat, lft again (crF keep f)⟩ := rfl
  rw [e2, e]
  have e3 : (lft keep f).toNat = (crF keep f).d.size := by omega
  rw [e3, extract_all]
  rfl
theorem szs_crF {keep : Int} : ∀ {fs : List DF}, (∀ f ∈ fs, 0 ≤ f.y ∧ f.y ≤ (f.d.size : Int)) → szs (fs.map (crF keep)) ≤ szs fs
  | [], _ => by simp [szs]
  | f :: fs, h => by
    have ih := szs_crF (keep := keep) (fs := fs) (fun g hg => h g (List.mem_cons_of_mem _ hg))
    have h1 := crF_size (keep := keep) (h f (by simp))
    have h2 := lft_in (keep := keep) (h f (by simp))
    unfold szs at *
    simp only [List.map_cons, List.sum_cons]
    omega
theorem OkF.crash {fs : List DF} (h : OkF fs) (keep : Int) : OkF (fs.map (crF keep)) := by
  obtain ⟨h1, h2, h3, h4⟩ := h
  refine ⟨?_, ?_, ?_, Nat.le_trans (szs_crF h3) h4⟩
  · intro f hf
    obtain ⟨g, hg, rfl⟩ := List.mem_map.1 hf
    exact h1 g hg
  · rw [List.pairwise_map]; exact h2
  · intro f hf
    obtain ⟨g, hg, rfl⟩ := List.mem_map.1 hf
    have e1 := crF_size (keep := keep) (h3 g hg)
    have e2 := lft_in (keep := keep) (h3 g hg)
    have e3 : (crF keep g).y = lft keep g := rfl
    omega
theorem map_again {fs : List DF} (h : OkF fs) (keep again : Int) : (fs.map (crF keep)).map (crF again) = fs.map (crF keep) := by
  rw [List.map_map]
  exact List.map_congr_left fun f hf => crF_again (h.2.2.1 f hf)
set_option maxRecDepth 100000 in
set_option maxHeartbeats 4000000 in
theorem again_core (v : Value) (dn : Bool) (fu keep again : Int) (fs : List DF) (w : World) (h : FsL w v fs) :
    Calls Try.prog 7 #[.agg #[v, .bool dn, .int .i64 fu], .int .i64 keep, .int .i64 again] w fun e w' => e = .returned (.bool true) ∧ Below w.heap.size w w' := by
  obtain ⟨W0, hW0, hb0, hs0, hx⟩ := box24 w v dn fu
  have HX : Hid _ := hx
  have HB0 : Hid (Below w.heap.size w W0) := hb0
  have CL : Hid (∀ W, Calls Try.prog 16 #[] W fun e w' => e = .returned (.bool true) ∧ Below W.heap.size W w') := lives_any
  have C1 : Hid (∀ W, Below w.heap.size w W → Calls Try.prog 14 #[.agg #[v, .bool dn, .int .i64 fu], .int .i64 keep] W fun e w' => Did (CrR fs keep) W e w') := fun W hb => Crash_any v dn fu keep fs W (h.below hb)
  obtain ⟨p, c, rfl, _⟩ := h
  clear hx hb0 hs0
  by_cases hok : okF fs = true
  · have hR : CrR fs keep = ⟨fs.map (crF keep), false, -1, 0⟩ := by unfold CrR; rw [if_pos hok]
    have hO := okF_iff.1 hok
    obtain ⟨gs, hgs⟩ : ∃ gs, fs.map (crF keep) = gs := ⟨_, rfl⟩
    have hR2 : CrR gs again = ⟨gs, false, -1, 0⟩ := by
      unfold CrR
      rw [← hgs, if_pos (okF_iff.2 (hO.crash keep)), map_again hO]
    rw [hR, hgs] at C1
    have C2 : Hid (∀ p n c W, FsL W (.slice p n c) gs → Calls Try.prog 14 #[.agg #[.slice p n c, .bool false, .int .i64 (-1)], .int .i64 again] W fun e w' => Did ⟨gs, false, -1, 0⟩ W e w') := fun p n c W h => by rw [← hR2]; exact Crash_any _ false (-1) again gs W h
    clear hgs hR hR2 hok hO
    go_enter Try.func7, Try.ntmps7
    go_wp2_with fail
    refine (CL.out _).mono ?_
    rintro e w1 ⟨rfl, hb1⟩
    obtain ⟨a0, a1, a2⟩ := HX.out w1 hb1
    have HB1 : Hid (Below w.heap.size w w1) := HB0.out.trans (hb1.mono HB0.out.size)
    have CC := C1.out w1 HB1.out
    clear hb1 C1
    go_wp2_with fail
    refine CC.mono ?_
    rintro e w2 ⟨p2, n2, c2, rfl, hl2, hb2⟩
    obtain rfl := hl2.len
    obtain ⟨W3, hW3⟩ : ∃ W3, w2.alloc (.cells #[.slice p2 gs.length c2, .bool false, .int .i64 (-1)] 24) = W3 := ⟨_, rfl⟩
    have hb3 : Below w2.heap.size w2 W3 := by rw [← hW3]; exact one_below _ _
    have hg3 : W3.heap[w2.heap.size]? = some (.cells #[.slice p2 gs.length c2, .bool false, .int .i64 (-1)] 24 (0, 0)) := by rw [← hW3]; exact heap_alloc_new w2 _
    have d0 := cell_of_row (k := 0) hg3 rfl
    have d1 := cell_of_row (k := 1) hg3 rfl
    have d2 := cell_of_row (k := 2) hg3 rfl
    have HJ3 : Hid (W3.heap[w2.heap.size]? = some (.cells #[.slice p2 gs.length c2, .bool false, .int .i64 (-1)] 24 (0, 0)) ∧ FsL W3 (.slice p2 gs.length c2) gs ∧ Below w.heap.size w W3) := ⟨hg3, hl2.below hb3, HB1.out.trans ((hb2.trans (hb3.mono hb2.size)).mono HB1.out.size)⟩
    have CD := C2.out _ _ _ W3 (hl2.below hb3)
    clear hl2 hb2 hb3 hg3 CC a0 a1 a2 C2
    go_wp2_with fail
    refine CD.mono ?_
    rintro e w4 ⟨p4, n4, c4, rfl, hl4, hb4⟩
    obtain rfl := hl4.len
    obtain ⟨j1, j2, j3⟩ := HJ3.out
    obtain ⟨W5, hW5⟩ : ∃ W5, w4.alloc (.cells #[.slice p4 gs.length c4, .bool false, .int .i64 (-1)] 24) = W5 := ⟨_, rfl⟩
    have hb5 : Below w4.heap.size w4 W5 := by rw [← hW5]; exact one_below _ _
    have hg5 : W5.heap[w4.heap.size]? = some (.cells #[.slice p4 gs.length c4, .bool false, .int .i64 (-1)] 24 (0, 0)) := by rw [← hW5]; exact heap_alloc_new w4 _
    have hb45 : Below W3.heap.size W3 W5 := hb4.trans (hb5.mono hb4.size)
    have hg5' : W5.heap[w2.heap.size]? = some (.cells #[.slice p2 gs.length c2, .bool false, .int .i64 (-1)] 24 (0, 0)) := by rw [hb45.block _ (Array.getElem?_eq_some_iff.1 j1).1]; exact j1
    have f0 := cell_of_row (k := 0) hg5 rfl
    have f1 := cell_of_row (k := 1) hg5 rfl
    have f2 := cell_of_row (k := 2) hg5 rfl
    have e0 := cell_of_row (k := 0) hg5' rfl
    have e1 := cell_of_row (k := 1) hg5' rfl
    have e2 := cell_of_row (k := 2) hg5' rfl
    have CE := Same_eq p2 p4 c2 c4 false (-1) gs W5 (j2.below hb45) (hl4.below hb5)
    have HB5 : Hid (Below w.heap.size w W5) := j3.trans (hb45.mono j3.size)
    clear hl4 hb4 hb5 hg5 hg5' hb45 j1 j2 j3 CD d0 d1 d2
    go_wp2_with fail
    refine CE.mono ?_
    rintro e w6 ⟨rfl, hb6⟩
    have HB6 : Hid (Below w.heap.size w w6) := HB5.out.trans (hb6.mono HB5.out.size)
    clear hb6 CE
    go_wp2_with fail
    go_ret
    exact ⟨rfl, HB6.out⟩
  · have hR : CrR fs keep = ⟨[], false, 0, 6⟩ := by unfold CrR; rw [if_neg hok]
    rw [hR] at C1
    clear hok hR
    go_enter Try.func7, Try.ntmps7
    go_wp2_with fail
    refine (CL.out _).mono ?_
    rintro e w1 ⟨rfl, hb1⟩
    obtain ⟨a0, a1, a2⟩ := HX.out w1 hb1
    have HB1 : Hid (Below w.heap.size w w1) := HB0.out.trans (hb1.mono HB0.out.size)
    have CC := C1.out w1 HB1.out
    clear hb1 C1
    go_wp2_with fail
    refine CC.mono ?_
    rintro e w2 ⟨p2, n2, c2, rfl, hl2, hb2⟩
    have hn2 := hl2.len
    simp only [List.length_nil] at hn2
    subst hn2
    obtain ⟨W3, hW3⟩ : ∃ W3, w2.alloc (.cells #[.slice p2 0 c2, .bool false, .int .i64 0] 24) = W3 := ⟨_, rfl⟩
    have hb3 : Below w2.heap.size w2 W3 := by rw [← hW3]; exact one_below _ _
    have hg3 : W3.heap[w2.heap.size]? = some (.cells #[.slice p2 0 c2, .bool false, .int .i64 0] 24 (0, 0)) := by rw [← hW3]; exact heap_alloc_new w2 _
    have d0 := cell_of_row (k := 0) hg3 rfl
    have d1 := cell_of_row (k := 1) hg3 rfl
    have d2 := cell_of_row (k := 2) hg3 rfl
    have s1 : W3.setCell ⟨w2.heap.size, 1, none⟩ (.bool false) = W3 := setCell_self hg3 rfl
    have s2 : W3.setCell ⟨w2.heap.size, 2, none⟩ (.int .i64 0) = W3 := setCell_self hg3 rfl
    have z1 := frozen_zero hg3 1
    have z2 := frozen_zero hg3 2
    have HB3 : Hid (Below w.heap.size w W3) := HB1.out.trans ((hb2.trans (hb3.mono hb2.size)).mono HB1.out.size)
    have CE := Same_eq p2 none c2 0 false 0 [] W3 (hl2.below hb3) ⟨none, 0, rfl, by simp, fun f hf => by simp at hf, fun h => by simp at h⟩
    simp only [List.length_nil] at CE
    clear hl2 hb2 hb3 hg3 CC a0 a1 a2
    go_wp2_with fail
    refine CE.mono ?_
    rintro e w6 ⟨rfl, hb6⟩
    have HB6 : Hid (Below w.heap.size w w6) := HB3.out.trans (hb6.mono HB3.out.size)
    clear hb6 CE
    go_wp2_with fail
    go_ret
    exact ⟨rfl, HB6.out⟩
end Go.Proofs.Ytedjfbkpebmggaa
