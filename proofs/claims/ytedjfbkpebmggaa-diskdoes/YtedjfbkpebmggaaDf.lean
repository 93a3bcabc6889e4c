/- A file that is looked for: what find answers. -/
import Derived.Test.YtedjfbkpebmggaaDe
namespace Go.Proofs.Ytedjfbkpebmggaa
open Go.Shelf Go.RowKit Go.Lib Go.Sort
set_option linter.unusedVariables false
set_option linter.unusedSimpArgs false
attribute [local go_sem ↓] Go.wp_at_zero Go.wp_at_succ
/-- The file of that name, or a zero one. -/
def fnd (nm : ByteArray) (fs : List DF) : DF := (fs.find? fun f => eqB f.n nm).getD ⟨⟨#[]⟩, ⟨#[]⟩, 0⟩
theorem Up.one {fs : List DF} (h : Up fs) {f g : DF} (hf : f ∈ fs) (hg : g ∈ fs) (e : f.n = g.n) : f = g := by
  obtain ⟨i, hi, rfl⟩ := List.getElem_of_mem hf
  obtain ⟨j, hj, rfl⟩ := List.getElem_of_mem hg
  by_cases a : i < j
  · have := h.lt a hj; rw [e, ltB_irrefl] at this; cases this
  · by_cases b : j < i
    · have := h.lt b hi; rw [e, ltB_irrefl] at this; cases this
    · have : i = j := by omega
      subst this; rfl
theorem fnd_mem {nm : ByteArray} {fs : List DF} (h : has nm fs = true) : fnd nm fs ∈ fs ∧ (fnd nm fs).n = nm := by
  unfold has at h
  unfold fnd
  obtain ⟨f, hf, e⟩ := List.any_eq_true.1 h
  cases hfd : fs.find? (fun f => eqB f.n nm) with
  | none => have := List.find?_eq_none.1 hfd f hf; simp [e] at this
  | some g => exact ⟨List.mem_of_find?_eq_some hfd, eqB_iff.1 (by simpa using List.find?_some hfd)⟩
theorem fnd_at {nm : ByteArray} {fs : List DF} (hu : Up fs) {k : Nat} (hk : k < fs.length) (e : fs[k].n = nm) : fnd nm fs = fs[k] := by
  have hh : has nm fs = true := List.any_eq_true.2 ⟨_, List.getElem_mem hk, eqB_iff.2 e⟩
  obtain ⟨h1, h2⟩ := fnd_mem hh
  exact hu.one h1 (List.getElem_mem hk) (by rw [h2, e])
theorem fnd_none {nm : ByteArray} {fs : List DF} (h : has nm fs = false) : fnd nm fs = ⟨⟨#[]⟩, ⟨#[]⟩, 0⟩ := by
  unfold fnd
  have : fs.find? (fun f => eqB f.n nm) = none := List.find?_eq_none.2 fun f hf => by
    have := List.any_eq_false.1 h f hf; simpa using this
  rw [this]; rfl
set_option maxRecDepth 100000 in
set_option maxHeartbeats 2000000 in
theorem find_any (v : Value) (nm : ByteArray) (fs : List DF) (w : World) (h : FsL w v fs) (hu : Up fs) :
    Calls Try.prog 28 #[v, .string nm] w fun e w' => e = .returned (.tuple #[.agg #[.string (fnd nm fs).n, .string (fnd nm fs).d, .int .i64 (fnd nm fs).y], .bool (has nm fs)]) ∧ Below w.heap.size w w' := by
  obtain ⟨W0, hW0⟩ : ∃ W0, w.alloc (.cells #[.string ⟨#[]⟩, .string ⟨#[]⟩, .int .i64 0] 41) = W0 := ⟨_, rfl⟩
  have hb0 : Below w.heap.size w W0 := by rw [← hW0]; exact one_below _ _
  have hg0 : W0.heap[w.heap.size]? = some (.cells #[.string ⟨#[]⟩, .string ⟨#[]⟩, .int .i64 0] 41 (0, 0)) := by rw [← hW0]; exact heap_alloc_new w _
  have hlt0 : w.heap.size < W0.heap.size := (Array.getElem?_eq_some_iff.1 hg0).1
  have C1 : Hid (Calls Try.prog 36 #[v, .string nm, .func (.func 37) #[] #[]] W0 fun e w' => ∃ k : Nat, e = .returned (.tuple #[.int .i64 k, .bool (has nm fs)]) ∧ k ≤ fs.length ∧ less nm fs = k ∧ (has nm fs = true → ∃ h : k < fs.length, fs[k].n = nm) ∧ Below W0.heap.size W0 w') := search_any v nm fs W0 (h.below hb0) hu
  obtain ⟨p, c, rfl, hl, hs, hp⟩ := h
  have HP : Hid (0 < fs.length → ∃ b o, p = some ⟨b, o, none⟩ ∧ b < w.heap.size ∧ FsIs w b o fs) := hp
  clear hp hs
  cases hh : has nm fs
  · rw [hh] at C1
    rw [fnd_none hh]
    go_enter Try.func28, Try.ntmps28
    go_wp2_with fail
    refine C1.out.mono ?_
    rintro e w1 ⟨k, rfl, _, _, _, hb1⟩
    have hg1 : w1.heap[w.heap.size]? = some (.cells #[.string ⟨#[]⟩, .string ⟨#[]⟩, .int .i64 0] 41 (0, 0)) := by rw [hb1.block _ hlt0]; exact hg0
    obtain ⟨Wa, Wb, Wc, hWa, hWb, hWc, ⟨oa, ca⟩, fa, ⟨ob, cb⟩, fb, ⟨oc, cc⟩, fc, hbl, _, cur', hg', _, _, k0, k1, k2⟩ := set_three (k := 0) hg1 (by simp) (.string ⟨#[]⟩) (.string ⟨#[]⟩) (.int .i64 0)
    have d0 : Wc.cell? ⟨w.heap.size, 0, none⟩ = some (.string ⟨#[]⟩) := cell_of_row hg' k0
    have d1 : Wc.cell? ⟨w.heap.size, 1, none⟩ = some (.string ⟨#[]⟩) := cell_of_row hg' k1
    have d2 : Wc.cell? ⟨w.heap.size, 2, none⟩ = some (.int .i64 0) := cell_of_row hg' k2
    have HB : Hid (Below w.heap.size w Wc) := hbl _ _ (hb0.trans (hb1.mono hb0.size)) (Nat.le_refl _)
    simp only [Nat.zero_add] at hWa hWb hWc ca fa cb fb cc fc
    clear C1 hb1 hg1 hbl hg' k0 k1 k2
    go_wp2_with fail
    exact bodyPost_ret (v := .tuple #[.agg #[.string ⟨#[]⟩, .string ⟨#[]⟩, .int .i64 0], .bool false]) (by simp [results, Try.results28, go_sem, d0, d1, d2]) rfl ⟨rfl, HB.out⟩
  · rw [hh] at C1
    have HU : Hid (Up fs) := hu
    clear hu
    go_enter Try.func28, Try.ntmps28
    go_wp2_with fail
    refine C1.out.mono ?_
    rintro e w1 ⟨k, rfl, _, _, hk, hb1⟩
    obtain ⟨hkl, hkn⟩ := hk trivial
    have hfd := fnd_at HU.out hkl hkn
    obtain ⟨b, o, rfl, hlt, hc⟩ := HP.out (by omega)
    have hbw1 : Below w.heap.size w w1 := hb0.trans (hb1.mono hb0.size)
    obtain ⟨c0, c1, c2⟩ := (hc.below hlt hbw1) k hkl
    obtain ⟨⟨n, d, y⟩, hf⟩ : ∃ f, fs[k] = f := ⟨_, rfl⟩
    rw [hf] at c0 c1 c2 hfd
    simp only at c0 c1 c2
    have HFD : Hid (fnd nm fs = ⟨n, d, y⟩) := hfd
    have hg1 : w1.heap[w.heap.size]? = some (.cells #[.string ⟨#[]⟩, .string ⟨#[]⟩, .int .i64 0] 41 (0, 0)) := by rw [hb1.block _ hlt0]; exact hg0
    obtain ⟨Wa, Wb, Wc, hWa, hWb, hWc, ⟨oa, ca⟩, fa, ⟨ob, cb⟩, fb, ⟨oc, cc⟩, fc, hbl, _, cur', hg', _, _, k0, k1, k2⟩ := set_three (k := 0) hg1 (by simp) (.string n) (.string d) (.int .i64 y)
    have d0 : Wc.cell? ⟨w.heap.size, 0, none⟩ = some (.string n) := cell_of_row hg' k0
    have d1 : Wc.cell? ⟨w.heap.size, 1, none⟩ = some (.string d) := cell_of_row hg' k1
    have d2 : Wc.cell? ⟨w.heap.size, 2, none⟩ = some (.int .i64 y) := cell_of_row hg' k2
    have HB : Hid (Below w.heap.size w Wc) := hbl _ _ hbw1 (Nat.le_refl _)
    simp only [Nat.zero_add] at hWa hWb hWc ca fa cb fb cc fc
    have z0 : (0 : Int) ≤ (k : Int) := by omega
    have z1 : (k : Int) < (fs.length : Int) := by omega
    clear C1 hb1 hg1 hbl hg' k0 k1 k2 hc hf hfd hkn hk hbw1 hlt
    go_wp2_with fail
    exact bodyPost_ret (v := .tuple #[.agg #[.string n, .string d, .int .i64 y], .bool true]) (by simp [results, Try.results28, go_sem, d0, d1, d2]) rfl ⟨by rw [HFD.out], HB.out⟩
end Go.Proofs.Ytedjfbkpebmggaa
