/- The reference: what Read and refuses answer. -/
import Derived.Test.YtedjfbkpebmggaaRd
namespace Go.Proofs.Ytedjfbkpebmggaa
open Go.Shelf Go.RowKit Go.Lib Go.Sort
set_option linter.unusedVariables false
set_option linter.unusedSimpArgs false
attribute [local go_sem ↓] Go.wp_at_zero Go.wp_at_succ
set_option maxRecDepth 100000 in
set_option maxHeartbeats 2000000 in
theorem refRead_any (v : Value) (dn : Bool) (fu : Int) (nm : ByteArray) (fs : List DF) (w : World) (h : FsL w v fs) :
    Calls Try.prog 13 #[.agg #[v, .bool dn, .int .i64 fu], .string nm] w fun e w' => e = .returned (.tuple #[.string (rdS fs dn nm), .int .i64 (rdE fs dn nm)]) ∧ Below w.heap.size w w' := by
  obtain ⟨W0, hW0, hb0, hs0, hx⟩ := box24 w v dn fu
  have HX : Hid _ := hx
  have C1 : Hid (Calls Try.prog 19 #[.agg #[v, .bool dn, .int .i64 fu]] W0 fun e w' => e = .returned (.int .i64 (chE fs)) ∧ Below W0.heap.size W0 w') := refCheck_any v dn fu fs W0 (h.below hb0)
  have C2 : Hid (∀ W, Below w.heap.size w W → Calls Try.prog 26 #[.agg #[v, .bool dn, .int .i64 fu], .string nm] W fun e w' => ∃ k : Int, e = .returned (.int .i64 k) ∧ idx nm fs k ∧ Below W.heap.size W w') := fun W hb => refFind_any v dn fu nm fs W (h.below hb)
  have HB0 : Hid (Below w.heap.size w W0) := hb0
  obtain ⟨x0, x1, x2⟩ := hx W0 (Below.refl _ _)
  have HFL : Hid (FsL w v fs) := h
  obtain ⟨p, c, rfl, _⟩ := h
  by_cases hok : okF fs = true
  · have hch : chE fs = 0 := by unfold chE; rw [if_pos hok]
    rw [hch] at C1
    cases dn with
    | true =>
      have HE : Hid (rdE fs true nm = 12 ∧ rdS fs true nm = ⟨#[]⟩) := ⟨by unfold rdE; rw [if_pos hok, if_pos rfl], by unfold rdS; rw [if_pos hok, if_pos rfl]⟩
      clear hch hx hb0 hs0 hok C2
      go_enter Try.func13, Try.ntmps13
      go_wp2_with fail
      refine C1.out.mono ?_
      rintro e w1 ⟨rfl, hb1⟩
      obtain ⟨a0, a1, a2⟩ := HX.out w1 hb1
      have HB : Hid (Below w.heap.size w w1) := HB0.out.trans (hb1.mono HB0.out.size)
      clear C1 hb1 x0 x1 x2
      go_wp2_with fail
      go_ret2
      exact ⟨by rw [HE.out.1, HE.out.2]; rfl, HB.out⟩
    | false =>
      have HE7 : Hid (has nm fs = false → rdE fs false nm = 7 ∧ rdS fs false nm = ⟨#[]⟩) := fun hh => ⟨by unfold rdE; rw [if_pos hok, if_neg (by simp), hh, if_neg (by simp)], by unfold rdS; rw [if_pos hok, if_neg (by simp), fnd_none hh]⟩
      have HE0 : Hid (has nm fs = true → rdE fs false nm = 0 ∧ rdS fs false nm = (fnd nm fs).d) := fun hh => ⟨by unfold rdE; rw [if_pos hok, if_neg (by simp), hh, if_pos rfl], by unfold rdS; rw [if_pos hok, if_neg (by simp)]⟩
      clear hch hx hb0 hs0 hok
      go_enter Try.func13, Try.ntmps13
      go_wp2_with fail
      refine C1.out.mono ?_
      rintro e w1 ⟨rfl, hb1⟩
      obtain ⟨a0, a1, a2⟩ := HX.out w1 hb1
      have HB1 : Hid (Below W0.heap.size W0 w1) := hb1
      have HB : Hid (Below w.heap.size w w1) := HB0.out.trans (hb1.mono HB0.out.size)
      have C3 := C2.out w1 HB.out
      clear C1 C2 hb1 x0 x1 x2
      go_wp2_with fail
      refine C3.mono ?_
      rintro e w2 ⟨k, rfl, hk, hb2⟩
      obtain ⟨a0, a1, a2⟩ := HX.out w2 (HB1.out.trans (hb2.mono HB1.out.size))
      have HB2 : Hid (Below w.heap.size w w2) := HB.out.trans (hb2.mono HB.out.size)
      rcases hk with ⟨hh, rfl⟩ | ⟨j, rfl, hj, hjn, hh, hfd⟩
      · have HE : Hid (rdE fs false nm = 7 ∧ rdS fs false nm = ⟨#[]⟩) := HE7.out hh
        clear C3 hb2 hh HE0 HE7
        go_wp2_with fail
        go_ret2
        exact ⟨by rw [HE.out.1, HE.out.2]; rfl, HB2.out⟩
      · have HE : Hid (rdE fs false nm = 0 ∧ rdS fs false nm = fs[j].d) := by rw [← hfd]; exact HE0.out hh
        obtain ⟨_, _, hq, _, _, hp⟩ := HFL.out
        simp only [Value.slice.injEq, true_and] at hq
        obtain ⟨rfl, rfl⟩ := hq
        obtain ⟨b, o, rfl, hlt, hc⟩ := hp (by omega)
        obtain ⟨c0, c1, c2⟩ := (hc.below hlt HB2.out) j hj
        obtain ⟨⟨n, d, y⟩, hf⟩ : ∃ f, fs[j] = f := ⟨_, rfl⟩
        rw [hf] at c0 c1 c2 HE
        simp only at c0 c1 c2 HE
        have z0 : (0 : Int) ≤ (j : Int) := by omega
        have z1 : (j : Int) < (fs.length : Int) := by omega
        have z2 : ¬ (j : Int) < 0 := by omega
        clear C3 hb2 hh HE0 HE7 hfd hjn hf hc hp
        go_wp2_with fail
        go_ret2
        exact ⟨by rw [HE.out.1, HE.out.2]; rfl, HB2.out⟩
  · have hch : chE fs = 6 := by unfold chE; rw [if_neg hok]
    rw [hch] at C1
    have HE : Hid (rdE fs dn nm = 6 ∧ rdS fs dn nm = ⟨#[]⟩) := ⟨by unfold rdE; rw [if_neg hok], by unfold rdS; rw [if_neg hok]⟩
    clear hch hx hb0 hs0 hok C2
    go_enter Try.func13, Try.ntmps13
    go_wp2_with fail
    refine C1.out.mono ?_
    rintro e w1 ⟨rfl, hb1⟩
    have HB : Hid (Below w.heap.size w w1) := HB0.out.trans (hb1.mono HB0.out.size)
    clear C1 hb1 x0 x1 x2
    go_wp2_with fail
    go_ret2
    exact ⟨by rw [HE.out.1, HE.out.2]; rfl, HB.out⟩
end Go.Proofs.Ytedjfbkpebmggaa
