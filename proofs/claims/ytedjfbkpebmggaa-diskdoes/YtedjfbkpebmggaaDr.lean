/- What Do answers. -/
import Derived.Test.YtedjfbkpebmggaaDq
namespace Go.Proofs.Ytedjfbkpebmggaa
open Go.Shelf Go.RowKit Go.Lib Go.Sort
set_option linter.unusedVariables false
set_option linter.unusedSimpArgs false
attribute [local go_sem ↓] Go.wp_at_zero Go.wp_at_succ
/-- A disk behind a change, and why. -/
def DoR (fs : List DF) (dn : Bool) (fu kk : Int) (nm tt dt : ByteArray) : DR := if okF fs = true then doR fs dn fu kk nm tt dt else ⟨[], false, 0, 6⟩
theorem OwnF.form {b : Nat} {W : World} {u : Value} {fs : List DF} (h : OwnF b W u fs) : ∃ p c, u = .slice p fs.length c := by
  obtain ⟨_, ⟨rfl, h0⟩ | ⟨g, cap, cur, rfl, _⟩⟩ := h
  · exact ⟨none, 0, by rw [h0]⟩
  · exact ⟨_, _, rfl⟩
theorem set1_other {W Wa : World} {g i : Nat} {a : Value} (h1 : W.setCell ⟨g, i, none⟩ a = Wa) : (∀ m, m ≠ g → Wa.heap[m]? = W.heap[m]?) ∧ W.heap.size ≤ Wa.heap.size := by
  subst h1
  refine ⟨fun m hm => ?_, by simp [World.setCell]⟩
  rw [heap_setCell_other _ ⟨g, i, none⟩ m _ hm]
set_option maxRecDepth 100000 in
set_option maxHeartbeats 4000000 in
theorem Do_any (v : Value) (dn : Bool) (fu kk : Int) (nm tt dt : ByteArray) (fs : List DF) (w : World) (h : FsL w v fs) (hm : (fs.length + 1) * 40 ≤ 140737488355328) (hr : -9223372036854775808 ≤ fu ∧ fu ≤ 9223372036854775807)
    (h1 : nm.size ≤ 140737488355328) (h2 : tt.size ≤ 140737488355328) (h3 : dt.size ≤ 140737488355328) :
    Calls Try.prog 10 #[.agg #[v, .bool dn, .int .i64 fu], .agg #[.int .u8 kk, .string nm, .string tt, .string dt]] w fun e w' => Did (DoR fs dn fu kk nm tt dt) w e w' := by
  obtain ⟨W0, hW0, hb0, hs0, hx⟩ := dobox w v dn fu kk nm tt dt
  have HX : Hid _ := hx
  have HG : Hid (∀ W, Below W0.heap.size W0 W → W.heap[w.heap.size]? = some (.cells #[v, .bool dn, .int .i64 fu] 24 (0, 0))) := fun W hb => by
    rw [hb.block _ (by omega), ← hW0, heap_alloc_old _ _ (by simp; omega), heap_alloc_old _ _ (by simp)]; exact heap_alloc_new w _
  have C1 : Hid (Calls Try.prog 18 #[.agg #[v, .bool dn, .int .i64 fu]] W0 fun e w' => e = .returned (.int .i64 (chE fs)) ∧ Below W0.heap.size W0 w') := check_any v dn fu fs W0 (h.below hb0)
  have HB0 : Hid (Below w.heap.size w W0) := hb0
  have HS0 : Hid (W0.heap.size = w.heap.size + 3) := hs0
  obtain ⟨⟨x0, x1, x2⟩, ⟨y0, y1, y2, y3⟩, _⟩ := hx W0 (Below.refl _ _)
  have HFL : Hid (FsL w v fs) := h
  obtain ⟨p, c, rfl, _⟩ := h
  by_cases hok : okF fs = true
  · have HD : Hid (DoR fs dn fu kk nm tt dt = doR fs dn fu kk nm tt dt) := by show _ = _; unfold DoR; rw [if_pos hok]
    have HO : Hid (OkF fs) := okF_iff.1 hok
    have hch : chE fs = 0 := by unfold chE; rw [if_pos hok]
    have C2 : Hid (∀ W, Below w.heap.size w W → Calls Try.prog 22 #[.agg #[.slice p fs.length c, .bool dn, .int .i64 fu], .agg #[.int .u8 kk, .string nm, .string tt, .string dt]] W fun e w' => Did (doR fs dn fu kk nm tt dt) W e w') := fun W hb => do_any _ dn fu kk nm tt dt fs W (HFL.out.below hb) HO.out hm hr h1 h2 h3
    rw [hch] at C1
    obtain ⟨R, hR⟩ : ∃ R, doR fs dn fu kk nm tt dt = R := ⟨_, rfl⟩
    rw [hR] at C2 HD
    obtain ⟨rfs, rdn, rfu, re⟩ := R
    clear hch hx hb0 hs0 hR hok h1 h2 h3 hm hr
    go_enter Try.func10, Try.ntmps10
    go_wp2_with fail
    refine C1.out.mono ?_
    rintro e w1 ⟨rfl, hb1⟩
    obtain ⟨⟨a0, a1, a2⟩, ⟨a3, a4, a5, a6⟩, _⟩ := HX.out w1 hb1
    have CD := C2.out w1 (HB0.out.trans (hb1.mono HB0.out.size))
    have HB1 : Hid (Below W0.heap.size W0 w1) := hb1
    clear C1 C2 hb1 x0 x1 x2 y0 y1 y2 y3
    go_wp2_with fail
    refine CD.mono ?_
    rintro e w2 ⟨pd, nd, cd, rfl, hL2, hb2⟩
    have hB2 : Below W0.heap.size W0 w2 := HB1.out.trans (hb2.mono HB1.out.size)
    have hg2 := HG.out w2 hB2
    obtain ⟨Wa, Wb, Wc, hWa, hWb, hWc, ⟨oa, ca⟩, fa, ⟨ob, cb⟩, fb, ⟨oc, cc⟩, fc, hbl, hgc, d0, d1, d2⟩ := set_disk hg2 (.slice pd nd cd) (.bool rdn) (.int .i64 rfu)
    obtain ⟨o1, o2⟩ := set3_other hWa hWb hWc
    have hLc : FsL Wc (.slice pd nd cd) rfs := hL2.but hg2 o1 o2
    have hbwc : Below w.heap.size w Wc := hbl _ _ (HB0.out.trans (hB2.mono HB0.out.size)) (Nat.le_refl _)
    have hgr : Wc.heap[w.heap.size + 1 + 1]? = some (.cells #[.slice none 0 0, .bool false, .int .i64 0] 24 (0, 0)) := by rw [o1 _ (by omega)]; exact (HX.out w2 hB2).2.2
    have C3 : Hid (Calls Try.prog 23 #[.slice pd nd cd] Wc fun e w' => ∃ u, e = .returned u ∧ OwnF Wc.heap.size w' u rfs ∧ Below Wc.heap.size Wc w') := copyFiles_any _ rfs Wc hLc
    have HP : Hid (Wc.heap[w.heap.size]? = some (.cells #[.slice pd nd cd, .bool rdn, .int .i64 rfu] 24 (0, 0)) ∧ Wc.heap[w.heap.size + 1 + 1]? = some (.cells #[.slice none 0 0, .bool false, .int .i64 0] 24 (0, 0)) ∧ Below w.heap.size w Wc ∧ FsL Wc (.slice pd nd cd) rfs) := ⟨hgc, hgr, hbwc, hLc⟩
    clear hL2 hb2 hB2 hg2 hbl hgc o1 o2 hLc hbwc hgr CD a0 a1 a2 a3 a4 a5 a6
    go_wp2_with fail
    refine C3.out.mono ?_
    rintro e w3 ⟨u3, rfl, ho3, hb3⟩
    obtain ⟨p3, c3, rfl⟩ := ho3.form
    obtain ⟨hgc, hgr, hbwc, hLc⟩ := HP.out
    have hL3 : FsL w3 (.slice p3 rfs.length c3) rfs := ho3.files hLc.many hLc.small
    have hg3 : w3.heap[w.heap.size]? = some (.cells #[.slice pd nd cd, .bool rdn, .int .i64 rfu] 24 (0, 0)) := by rw [hb3.block _ (Array.getElem?_eq_some_iff.1 hgc).1]; exact hgc
    have hgr3 : w3.heap[w.heap.size + 1 + 1]? = some (.cells #[.slice none 0 0, .bool false, .int .i64 0] 24 (0, 0)) := by rw [hb3.block _ (Array.getElem?_eq_some_iff.1 hgr).1]; exact hgr
    have hbw3 : Below w.heap.size w w3 := hbwc.trans (hb3.mono hbwc.size)
    obtain ⟨⟨oq, cq⟩, fq, hg4, hbl4⟩ := setT_row hg3 (k := 0) (by simp) (.slice p3 rfs.length c3)
    obtain ⟨W4, hW4⟩ : ∃ W4, w3.setCell ⟨w.heap.size, 0, none⟩ (.slice p3 rfs.length c3) = W4 := ⟨_, rfl⟩
    rw [hW4] at hg4 hbl4
    obtain ⟨o3, o4⟩ := set1_other hW4
    have hL4 : FsL W4 (.slice p3 rfs.length c3) rfs := hL3.but hg3 o3 o4
    have hbw4 := hbl4 _ _ hbw3 (Nat.le_refl _)
    have hgr4 : W4.heap[w.heap.size + 1 + 1]? = some (.cells #[.slice none 0 0, .bool false, .int .i64 0] 24 (0, 0)) := by rw [o3 _ (by omega)]; exact hgr3
    have e0 : W4.cell? ⟨w.heap.size, 0, none⟩ = some (.slice p3 rfs.length c3) := cell_of_row hg4 rfl
    have e1 : W4.cell? ⟨w.heap.size, 1, none⟩ = some (.bool rdn) := cell_of_row hg4 rfl
    have e2 : W4.cell? ⟨w.heap.size, 2, none⟩ = some (.int .i64 rfu) := cell_of_row hg4 rfl
    obtain ⟨Va, Vb, Vc, hVa, hVb, hVc, ⟨pa, ka⟩, ga, ⟨pb, kb⟩, gb, ⟨pc, kc⟩, gc, hbv, _, r0, r1, r2⟩ := set_disk hgr4 (.slice p3 rfs.length c3) (.bool rdn) (.int .i64 rfu)
    obtain ⟨o5, o6⟩ := set3_other hVa hVb hVc
    have HF : Hid (FsL Vc (.slice p3 rfs.length c3) rfs ∧ Below w.heap.size w Vc) := ⟨hL4.but hgr4 o5 o6, hbv _ _ hbw4 (by omega)⟩
    clear hL3 hL4 hbw3 hbw4 hbv hbl4 hg3 hg4 hgr3 hgr4 o3 o4 o5 o6 hb3 hgc hgr hbwc hLc ho3 C3 HP
    go_wp2_with fail
    exact bodyPost_ret (v := .tuple #[.agg #[.slice p3 rfs.length c3, .bool rdn, .int .i64 rfu], .int .i64 re]) (by simp [results, Try.results10, go_sem, r0, r1, r2]) rfl (by rw [HD.out]; exact ⟨_, _, _, rfl, HF.out.1, HF.out.2⟩)
  · have HD : Hid (DoR fs dn fu kk nm tt dt = ⟨[], false, 0, 6⟩) := by show _ = _; unfold DoR; rw [if_neg hok]
    have hch : chE fs = 6 := by unfold chE; rw [if_neg hok]
    rw [hch] at C1
    clear hch hx hb0 hs0 hok h1 h2 h3 hm hr
    go_enter Try.func10, Try.ntmps10
    go_wp2_with fail
    refine C1.out.mono ?_
    rintro e w1 ⟨rfl, hb1⟩
    obtain ⟨_, _, hg⟩ := HX.out w1 hb1
    obtain ⟨Wa, Wb, Wc, hWa, hWb, hWc, ⟨oa, ca⟩, fa, ⟨ob, cb⟩, fb, ⟨oc, cc⟩, fc, hbl, _, d0, d1, d2⟩ := set_disk hg (.slice none 0 0) (.bool false) (.int .i64 0)
    have HB : Hid (Below w.heap.size w Wc) := hbl _ _ (HB0.out.trans (hb1.mono HB0.out.size)) (by omega)
    clear hg hbl hb1 C1 x0 x1 x2 y0 y1 y2 y3
    go_wp2_with fail
    exact bodyPost_ret (v := .tuple #[.agg #[.slice none 0 0, .bool false, .int .i64 0], .int .i64 6]) (by simp [results, Try.results10, go_sem, d0, d1, d2]) rfl (by rw [HD.out]; exact ⟨none, 0, 0, rfl, ⟨none, 0, rfl, by simp, fun f hf => by simp at hf, fun h => by simp at h⟩, HB.out⟩)
end Go.Proofs.Ytedjfbkpebmggaa
