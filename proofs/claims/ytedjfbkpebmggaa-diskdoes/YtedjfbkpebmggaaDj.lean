/- Changes: what put, sync and drop answer. -/
import Derived.Test.YtedjfbkpebmggaaDi
namespace Go.Proofs.Ytedjfbkpebmggaa
open Go.Shelf Go.RowKit Go.Lib Go.Sort
set_option linter.unusedVariables false
set_option linter.unusedSimpArgs false
attribute [local go_sem ↓] Go.wp_at_zero Go.wp_at_succ
theorem szs_wo (nm : ByteArray) : ∀ fs : List DF, szs (wo nm fs) ≤ szs fs
  | [] => by simp [wo, szs]
  | f :: fs => by
    have ih := szs_wo nm fs
    unfold wo szs at *
    rw [List.filter_cons]
    split
    · simp; omega
    · simp; omega
/-- Why a file is not put. -/
def putE (fs : List DF) (nm dt : ByteArray) : Int := if nm = ⟨#[]⟩ then 7 else if 1048576 < dt.size + szs (wo nm fs) then 8 else 0
def putF (fs : List DF) (nm dt : ByteArray) : List DF := wi ⟨nm, dt, 0⟩ (wo nm fs)
theorem chbox (w : World) (v : Value) (kk : Int) (nm tt dt : ByteArray) : ∃ W0, w.alloc (.cells #[v, .int .u8 kk, .string nm, .string tt, .string dt] 69) = W0 ∧ Below w.heap.size w W0 ∧ w.heap.size < W0.heap.size ∧ (∀ W, Below W0.heap.size W0 W → W.cell? ⟨w.heap.size, 0, none⟩ = some v ∧ W.cell? ⟨w.heap.size, 2, none⟩ = some (.string nm) ∧ W.cell? ⟨w.heap.size, 3, none⟩ = some (.string tt) ∧ W.cell? ⟨w.heap.size, 4, none⟩ = some (.string dt)) := by
  refine ⟨_, rfl, one_below _ _, by simp, fun W hb => ?_⟩
  have hg := heap_alloc_new w (.cells #[v, .int .u8 kk, .string nm, .string tt, .string dt] 69)
  have hg' : W.heap[w.heap.size]? = some (.cells #[v, .int .u8 kk, .string nm, .string tt, .string dt] 69 (0, 0)) := by rw [hb.block _ (by simp)]; exact hg
  exact ⟨cell_of_row hg' rfl, cell_of_row hg' rfl, cell_of_row hg' rfl, cell_of_row hg' rfl⟩
theorem ne_empty {nm : ByteArray} (h : nm ≠ ⟨#[]⟩) : (nm.toList == (⟨#[]⟩ : ByteArray).toList) = false ∧ (nm.toList == []) = false := by
  have h1 : eqB nm ⟨#[]⟩ = false := by
    cases e : eqB nm ⟨#[]⟩ with
    | false => rfl
    | true => exact absurd (eqB_iff.1 e) h
  have e0 : (⟨#[]⟩ : ByteArray).toList = [] := by simp [ByteArray.toList_eq]
  refine ⟨h1, ?_⟩
  unfold eqB at h1
  rwa [e0] at h1
set_option maxRecDepth 100000 in
set_option maxHeartbeats 2000000 in
theorem put_any (v : Value) (kk : Int) (nm tt dt : ByteArray) (fs : List DF) (w : World) (h : FsL w v fs) (hu : Up fs) (hz : szs fs ≤ 1048576) (hm : (fs.length + 1) * 40 ≤ 140737488355328) (hf : nm.size ≤ 140737488355328 ∧ dt.size ≤ 140737488355328) :
    Calls Try.prog 39 #[.agg #[v, .int .u8 kk, .string nm, .string tt, .string dt]] w fun e w' => ∃ u, e = .returned (.tuple #[u, .int .i64 (putE fs nm dt)]) ∧ (putE fs nm dt = 0 → FsL w' u (putF fs nm dt)) ∧ Below w.heap.size w w' := by
  obtain ⟨W0, hW0, hb0, hlt0, hx⟩ := chbox w v kk nm tt dt
  have HX : Hid (∀ W, Below W0.heap.size W0 W → W.cell? ⟨w.heap.size, 0, none⟩ = some v ∧ W.cell? ⟨w.heap.size, 2, none⟩ = some (.string nm) ∧ W.cell? ⟨w.heap.size, 3, none⟩ = some (.string tt) ∧ W.cell? ⟨w.heap.size, 4, none⟩ = some (.string dt)) := hx
  obtain ⟨x0, x1, _, x3⟩ := hx W0 (Below.refl _ _)
  have HB0 : Hid (Below w.heap.size w W0) := hb0
  have C1 : Hid (∀ W, Below W0.heap.size W0 W → Calls Try.prog 44 #[v, .string nm] W fun e w' => ∃ u, e = .returned u ∧ OwnF (W.heap.size + 1) w' u (wo nm fs) ∧ Below W.heap.size W w') := fun W hb => without_any v nm fs W ((h.below hb0).below hb)
  have hwl := wo_length nm fs
  have hws := szs_wo nm fs
  have hs := wo_small (nm := nm) h.small
  obtain ⟨p, c, rfl, _⟩ := h
  clear hx
  by_cases e0 : nm = ⟨#[]⟩
  · subst e0
    have HE : Hid (putE fs ⟨#[]⟩ dt = 7) := by unfold putE; exact if_pos rfl
    go_enter Try.func39, Try.ntmps39
    go_wp2_with fail
    go_ret2
    exact ⟨_, by rw [HE.out]; rfl, by rw [HE.out]; intro h; omega, HB0.out⟩
  · obtain ⟨ne1, ne2⟩ := ne_empty e0
    have CS : Hid (∀ u W, FsL W u (wo nm fs) → Calls Try.prog 45 #[u] W fun e w' => e = .returned (.int .i64 (szs (wo nm fs))) ∧ Below W.heap.size W w') := fun u W hx => size_any u _ W hx (by omega)
    have CW : Hid (∀ u W, FsL W u (wo nm fs) → Calls Try.prog 46 #[u, .agg #[.string nm, .string dt, .int .i64 0]] W fun e w' => ∃ u, e = .returned u ∧ FsL w' u (putF fs nm dt) ∧ Below W.heap.size W w') := fun u W hx => with_any u nm dt 0 _ W hx (hu.wo nm) (by omega) hf
    have HFS : Hid (∀ u W b, OwnF b W u (wo nm fs) → FsL W u (wo nm fs)) := fun u W b ho => ho.files (by omega) hs
    obtain ⟨sz, hsz⟩ : ∃ sz, szs (wo nm fs) = sz := ⟨_, rfl⟩
    have HE : Hid (putE fs nm dt = if 1048576 < dt.size + sz then 8 else 0) := by unfold putE; rw [if_neg e0, hsz]; rfl
    rw [hsz] at CS hws
    clear hsz hu hs
    go_enter Try.func39, Try.ntmps39
    go_wp2_with fail
    refine (C1.out _ (Below.refl _ _)).mono ?_
    rintro e w1 ⟨u1, rfl, ho1, hb1⟩
    have HL1 : Hid (FsL w1 u1 (wo nm fs)) := HFS.out _ _ _ ho1
    have HB1 : Hid (Below W0.heap.size W0 w1) := hb1
    clear ho1 x0 x1 x3
    have px : ∀ p : LaterS w1.heap.size w1, p.w.cell? ⟨w.heap.size, 4, none⟩ = some (.string dt) := fun p => (HX.out p.w (hb1.trans (p.h.mono hb1.size))).2.2.2
    have CZ : Hid (∀ p : LaterS w1.heap.size w1, Calls Try.prog 45 #[u1] p.w fun e w' => e = .returned (.int .i64 (sz : Int)) ∧ Below p.w.heap.size p.w w') := fun p => CS.out u1 p.w (HL1.out.below p.h)
    have q1 : IntKind.i64.wrap (1048576 - (sz : Int)) = 1048576 - (sz : Int) := by rw [IntKind.wrap_i64]; omega
    clear hb1
    go_wp2_with fail
    have inhL := laterInh
    refine wp_region_laterS mixedOnS (by kernel_rfl) ?_
    repeat (go_big_quiet_step ((go_at_call 45; exact calls_laterS (CZ.out _))))
    refine wpQuiet_nil ?_
    intro w2 hw'
    obtain ⟨⟨wq, hwq⟩, hw''⟩ := hw'
    subst hw''
    obtain ⟨_, y1, _, y3⟩ := HX.out w2 (HB1.out.trans (hwq.mono HB1.out.size))
    have HL2 : Hid (FsL w2 u1 (wo nm fs)) := HL1.out.below hwq
    have HB2 : Hid (Below w.heap.size w w2) := HB0.out.trans ((HB1.out.trans (hwq.mono HB1.out.size)).mono HB0.out.size)
    clear hwq px CZ
    by_cases t0 : 1048576 < dt.size + sz
    · have HE2 : Hid (putE fs nm dt = 8) := by show _ = _; rw [HE.out, if_pos t0]
      have t1 : 1048576 - (sz : Int) < (dt.size : Int) := by omega
      clear HE
      go_wp2_with fail
      go_ret2
      exact ⟨_, by rw [HE2.out]; rfl, by rw [HE2.out]; intro h; omega, HB2.out⟩
    · have HE2 : Hid (putE fs nm dt = 0) := by show _ = _; rw [HE.out, if_neg t0]
      have t1 : ¬ 1048576 - (sz : Int) < (dt.size : Int) := by omega
      clear HE
      go_wp2_with fail
      refine (CW.out _ _ HL2.out).mono ?_
      rintro e w3 ⟨u3, rfl, h3, hb3⟩
      have HF : Hid (FsL w3 u3 (putF fs nm dt) ∧ Below w.heap.size w w3) := ⟨h3, HB2.out.trans (hb3.mono HB2.out.size)⟩
      clear h3 hb3
      go_wp2_with fail
      go_ret2
      exact ⟨_, by rw [HE2.out]; rfl, fun _ => HF.out.1, HF.out.2⟩
end Go.Proofs.Ytedjfbkpebmggaa
