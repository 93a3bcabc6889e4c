/- Files with one more: what with answers. -/
import Derived.Test.YtedjfbkpebmggaaDh
namespace Go.Proofs.Ytedjfbkpebmggaa
open Go.Shelf Go.RowKit Go.Lib Go.Sort
set_option linter.unusedVariables false
set_option linter.unusedSimpArgs false
attribute [local go_sem ↓] Go.wp_at_zero Go.wp_at_succ
theorem OwnF.mono {b b' : Nat} {W : World} {u : Value} {fs : List DF} (h : OwnF b W u fs) (hb : b' ≤ b) : OwnF b' W u fs := by
  obtain ⟨hl, h0 | ⟨g, cap, cur, e, hbg, r⟩⟩ := h
  · exact ⟨hl, .inl h0⟩
  · exact ⟨hl, .inr ⟨g, cap, cur, e, Nat.le_trans hb hbg, r⟩⟩
theorem OwnF.below {b : Nat} {W W' : World} {u : Value} {fs : List DF} (h : OwnF b W u fs) (hb : Below W.heap.size W W') : OwnF b W' u fs := by
  obtain ⟨hl, h0 | ⟨g, cap, cur, e, hbg, hg, r⟩⟩ := h
  · exact ⟨hl, .inl h0⟩
  · exact ⟨hl, .inr ⟨g, cap, cur, e, hbg, by rw [hb.block _ (Array.getElem?_eq_some_iff.1 hg).1]; exact hg, r⟩⟩
theorem insert_any (v : Value) (l : List DF) (k : Nat) (f : DF) (w0 w : World) (hk : k ≤ l.length) (h : OwnF w0.heap.size w v l) (hbw : Below w0.heap.size w0 w) (hm : (l.length + 1) * 40 ≤ 140737488355328) :
    Calls Try.prog 50 #[v, .int .i64 k, .slice (some ⟨w.heap.size, 0, none⟩) 1 1] (w.alloc (.cells #[.string f.n, .string f.d, .int .i64 f.y] 41)) fun e w' => ∃ u, e = .returned u ∧ OwnF w0.heap.size w' u (insK k f l) ∧ Below w0.heap.size w0 w' := by
  have hv := heap_alloc_new w (.cells #[.string f.n, .string f.d, .int .i64 f.y] 41)
  have hb := one_below w (.cells #[.string f.n, .string f.d, .int .i64 f.y] 41)
  have hbw' := hbw.trans (hb.mono hbw.size)
  have h' := h.below hb
  by_cases e : k = l.length
  · subst e
    exact insEnd_any v l f _ w0 _ h' hbw' hm hv
  · obtain ⟨hl, ⟨rfl, h0⟩ | ⟨g, cap, cur, rfl, hbg, hg, hnc, hcm, hcs, htake⟩⟩ := h
    · omega
    · have hgl : g < w.heap.size := (Array.getElem?_eq_some_iff.1 hg).1
      have hg' : (w.alloc (.cells #[.string f.n, .string f.d, .int .i64 f.y] 41)).heap[g]? = some (.cells cur 41 (0, 0)) := by rw [hb.block _ hgl]; exact hg
      by_cases hr : l.length + 1 ≤ cap
      · exact insRoom_any g cap cur l k f _ w0 _ hbg hg' hcs hcm htake (by omega) hr hbw' (by omega) hv
      · exact insGrow_any g cap cur l k f _ w0 _ hg' hcs hcm htake (by omega) hnc (by omega) hbw' hm hv
/-- The files with that one, and without any other of its name. -/
def wi (f : DF) (fs : List DF) : List DF := insK (less f.n (wo f.n fs)) f (wo f.n fs)
theorem Up.wo {fs : List DF} (h : Up fs) (nm : ByteArray) : Up (wo nm fs) := List.Pairwise.filter _ h
theorem insK_small {k : Nat} {f : DF} {l : List DF} (h : SmallF l) (hf : f.n.size ≤ 140737488355328 ∧ f.d.size ≤ 140737488355328) : SmallF (insK k f l) := by
  intro g hg
  unfold insK at hg
  rw [List.mem_append, List.mem_cons] at hg
  rcases hg with hg | rfl | hg
  · exact h g (List.mem_of_mem_take hg)
  · exact hf
  · exact h g (List.mem_of_mem_drop hg)
set_option maxRecDepth 100000 in
set_option maxHeartbeats 2000000 in
theorem with_any (v : Value) (n d : ByteArray) (y : Int) (fs : List DF) (w : World) (h : FsL w v fs) (hu : Up fs) (hm : (fs.length + 1) * 40 ≤ 140737488355328) (hf : n.size ≤ 140737488355328 ∧ d.size ≤ 140737488355328) :
    Calls Try.prog 46 #[v, .agg #[.string n, .string d, .int .i64 y]] w fun e w' => ∃ u, e = .returned u ∧ FsL w' u (wi ⟨n, d, y⟩ fs) ∧ Below w.heap.size w w' := by
  obtain ⟨W0, hW0⟩ : ∃ W0, w.alloc (.cells #[.string n, .string d, .int .i64 y] 41) = W0 := ⟨_, rfl⟩
  have hb0 : Below w.heap.size w W0 := by rw [← hW0]; exact one_below _ _
  have hg0 : W0.heap[w.heap.size]? = some (.cells #[.string n, .string d, .int .i64 y] 41 (0, 0)) := by rw [← hW0]; exact heap_alloc_new w _
  have hlt0 : w.heap.size < W0.heap.size := (Array.getElem?_eq_some_iff.1 hg0).1
  have x0 : W0.cell? ⟨w.heap.size, 0, none⟩ = some (.string n) := cell_of_row hg0 rfl
  have x1 : W0.cell? ⟨w.heap.size, 1, none⟩ = some (.string d) := cell_of_row hg0 rfl
  have x2 : W0.cell? ⟨w.heap.size, 2, none⟩ = some (.int .i64 y) := cell_of_row hg0 rfl
  have hwl := wo_length n fs
  have hs := h.small
  have C1 : Hid (Calls Try.prog 44 #[v, .string n] W0 fun e w' => ∃ u, e = .returned u ∧ OwnF (W0.heap.size + 1) w' u (wo n fs) ∧ Below W0.heap.size W0 w') := without_any v n fs W0 (h.below hb0)
  have C2 : Hid (∀ u W, FsL W u (wo n fs) → Calls Try.prog 36 #[u, .string n, .func (.func 37) #[] #[]] W fun e w' => ∃ k : Nat, e = .returned (.tuple #[.int .i64 k, .bool (has n (wo n fs))]) ∧ k ≤ (wo n fs).length ∧ less n (wo n fs) = k ∧ (has n (wo n fs) = true → ∃ h : k < (wo n fs).length, (wo n fs)[k].n = n) ∧ Below W.heap.size W w') := fun u W hx => search_any u n _ W hx (hu.wo n)
  have C3 : Hid (∀ u k W, k ≤ (wo n fs).length → OwnF W0.heap.size W u (wo n fs) → Below W0.heap.size W0 W → Calls Try.prog 50 #[u, .int .i64 k, .slice (some ⟨W.heap.size, 0, none⟩) 1 1] (W.alloc (.cells #[.string n, .string d, .int .i64 y] 41)) fun e w' => ∃ u, e = .returned u ∧ OwnF W0.heap.size w' u (insK k ⟨n, d, y⟩ (wo n fs)) ∧ Below W0.heap.size W0 w') :=
    fun u k W hk ho hb => insert_any u _ k ⟨n, d, y⟩ W0 W hk ho hb (by omega)
  have HFS : Hid (∀ u W, OwnF W0.heap.size W u (wo n fs) → FsL W u (wo n fs)) := fun u W ho => ho.files (by omega) (wo_small hs)
  have HFI : Hid (∀ u W k, OwnF W0.heap.size W u (insK k ⟨n, d, y⟩ (wo n fs)) → FsL W u (insK k ⟨n, d, y⟩ (wo n fs))) := fun u W k ho => ho.files (by rw [insK_length]; omega) (insK_small (wo_small hs) hf)
  obtain ⟨p, c, rfl, _⟩ := h
  have HB0 : Hid (Below w.heap.size w W0) := hb0
  clear hu hs hf hwl hb0
  go_enter Try.func46, Try.ntmps46
  go_wp2_with fail
  refine C1.out.mono ?_
  rintro e w1 ⟨u1, rfl, ho1, hb1⟩
  have hO1 : OwnF W0.heap.size w1 u1 (wo n fs) := ho1.mono (by omega)
  have y0 : w1.cell? ⟨w.heap.size, 0, none⟩ = some (.string n) := by rw [hb1.cell (p := ⟨w.heap.size, _, none⟩) hlt0]; exact x0
  have HL1 := HFS.out _ _ hO1
  clear ho1
  go_wp2_with fail
  refine (C2.out _ _ HL1).mono ?_
  rintro e w2 ⟨k, rfl, hk, hkl, _, hb2⟩
  have hB2 : Below W0.heap.size W0 w2 := hb1.trans (hb2.mono hb1.size)
  have y0 : w2.cell? ⟨w.heap.size, 0, none⟩ = some (.string n) := by rw [hB2.cell (p := ⟨w.heap.size, _, none⟩) hlt0]; exact x0
  have y1 : w2.cell? ⟨w.heap.size, 1, none⟩ = some (.string d) := by rw [hB2.cell (p := ⟨w.heap.size, _, none⟩) hlt0]; exact x1
  have y2 : w2.cell? ⟨w.heap.size, 2, none⟩ = some (.int .i64 y) := by rw [hB2.cell (p := ⟨w.heap.size, _, none⟩) hlt0]; exact x2
  have hO2 := hO1.below hb2
  have C4 : Hid (Calls Try.prog 50 #[u1, .int .i64 k, .slice (some ⟨w2.heap.size, 0, none⟩) 1 1] (w2.alloc (.cells #[.string n, .string d, .int .i64 y] 41)) fun e w' => ∃ u, e = .returned u ∧ FsL w' u (wi ⟨n, d, y⟩ fs) ∧ Below w.heap.size w w') := by
    refine (C3.out u1 k w2 hk hO2 hB2).mono ?_
    rintro e w' ⟨u, rfl, ho, hb⟩
    refine ⟨u, rfl, ?_, HB0.out.trans (hb.mono HB0.out.size)⟩
    unfold wi
    rw [show less (DF.mk n d y).n (wo (DF.mk n d y).n fs) = k from hkl]
    exact HFI.out _ _ _ ho
  clear hO1 HL1 hb1 hb2 hO2 hkl hk C1 C2 C3 HFS HFI x0 x1 x2 hB2
  go_wp2_with fail
  refine C4.out.mono ?_
  rintro e w3 ⟨u3, rfl, h3, hb3⟩
  have HF : Hid (FsL w3 u3 (wi ⟨n, d, y⟩ fs) ∧ Below w.heap.size w w3) := ⟨h3, hb3⟩
  clear h3 hb3 C4
  go_wp2_with fail
  go_ret
  exact ⟨_, rfl, HF.out⟩
end Go.Proofs.Ytedjfbkpebmggaa
