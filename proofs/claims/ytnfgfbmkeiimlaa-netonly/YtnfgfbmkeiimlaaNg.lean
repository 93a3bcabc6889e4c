/- A net in new memory: what netOf and beside answer. -/
import Derived.Test.YtnfgfbmkeiimlaaNf
namespace Go.Proofs.Ytnfgfbmkeiimlaa
open Go.Shelf Go.RowKit Go.Lib Go.Sort
set_option linter.unusedVariables false
set_option linter.unusedSimpArgs false
attribute [local go_sem ↓] Go.wp_at_zero Go.wp_at_succ
theorem allP_small {W : World} {v : Value} {ls : List (Value × List PK)} (h : LsL W v ls) : SmallP (allP ls) := by
  intro f hf
  obtain ⟨b, o, c, rfl, hlt, h1, h2⟩ := h
  obtain ⟨l, hl, hf⟩ := List.mem_flatMap.1 hf
  obtain ⟨j, hj, rfl⟩ := List.getElem_of_mem hl
  exact (h2 j hj).2.small f hf
set_option maxRecDepth 100000 in
set_option maxHeartbeats 2000000 in
theorem netOf_any (v : Value) (ls : List (Value × List PK)) (w : World) (h : LsL w v ls) (hm : (allP ls).length * 32 ≤ 140737488355328) :
    Calls Try.prog 23 #[v] w fun e w' => ∃ u, e = .returned (.agg #[u]) ∧ OwnP w.heap.size w' u (allP ls) ∧ Below w.heap.size w w' := by
  have C1 : Hid (∀ W, Below w.heap.size w W → Calls Try.prog 32 #[v] W fun e w' => ∃ u, e = .returned u ∧ OwnP W.heap.size w' u (allP ls) ∧ Below W.heap.size W w') := fun W hb => concat_any v ls W (h.below hb) hm
  have HS : Hid (SmallP (allP ls)) := allP_small h
  obtain ⟨b, o, c, rfl, _⟩ := h
  obtain ⟨fs, hfs⟩ : ∃ fs, allP ls = fs := ⟨_, rfl⟩
  rw [hfs] at C1 HS hm ⊢
  clear hfs
  obtain ⟨W0, hW0⟩ : ∃ W0, w.alloc (.cells #[.slice none 0 0] 24) = W0 := ⟨_, rfl⟩
  have hb0 : Below w.heap.size w W0 := by rw [← hW0]; exact one_below _ _
  have hs0 : W0.heap.size = w.heap.size + 1 := by rw [← hW0]; simp
  have g0 : W0.heap[w.heap.size]? = some (.cells #[.slice none 0 0] 24 (0, 0)) := by rw [← hW0]; exact heap_alloc_new w _
  have C1 : Hid (Calls Try.prog 32 #[.slice (some ⟨b, o, none⟩) ls.length c] W0 fun e w' => ∃ u, e = .returned u ∧ OwnP W0.heap.size w' u fs ∧ Below W0.heap.size W0 w') := C1.out W0 hb0
  have HG0 : Hid (∀ W, Below W0.heap.size W0 W → W.heap[w.heap.size]? = some (.cells #[.slice none 0 0] 24 (0, 0))) := fun W hb => by rw [hb.block _ (by omega)]; exact g0
  have HB0 : Hid (Below w.heap.size w W0) := hb0
  have HZ0 : Hid (W0.heap.size = w.heap.size + 1) := hs0
  clear g0 hb0 hs0
  go_enter Try.func23, Try.ntmps23
  go_wp2_with fail
  refine C1.out.mono ?_
  rintro e w1 ⟨u1, rfl, ho1, hb1⟩
  have HO1 : Hid (OwnP W0.heap.size w1 u1 fs) := ho1
  have HB1 : Hid (Below W0.heap.size W0 w1) := hb1
  clear C1 hb1
  obtain ⟨hl, ⟨rfl, h0⟩ | ⟨g, cap, cur, rfl, hbg, hg, hnc, hcm, hcs, htake⟩⟩ := ho1
  · have hf : fs = [] := List.eq_nil_of_length_eq_zero h0
    subst hf
    clear h0 hl
    go_wp2_with fail
    go_loopg [10] 0 (fun gf s10 wx => s10 = .int .i64 0 ∧ wx = w1)
    case atStart => exact ⟨rfl, rfl⟩
    case round =>
      obtain ⟨rfl, hwx⟩ := hrel
      subst hwx
      have k0 := HG0.out wr HB1.out
      obtain ⟨⟨o1, e1⟩, e2, e3, e4⟩ := set_row k0 (k := 0) (by simp) (.slice none 0 0)
      have t1 : wr.setCell ⟨w.heap.size, 0, none⟩ (.slice none 0 0) = wr := setCell_self k0 rfl
      have d0 := cell_of_row (k := 0) k0 rfl
      have HB : Hid (Below w.heap.size w wr) := HB0.out.trans (HB1.out.mono HB0.out.size)
      clear k0 e3 e4
      go_wp2_with fail
      exact bodyPost_ret (v := .agg #[.slice none 0 0]) (by simp [results, Try.results23, go_sem, d0]) rfl ⟨_, rfl, World.ownsRow_nil _ _ _ _, HB.out⟩
  · have hcell : ∀ j, j < fs.length * 3 → cur[j]? = (flat fs)[j]? := fun j hj => by rw [← htake, List.getElem?_take_of_lt hj]; simp
    have HCE : Hid (∀ j, j < fs.length * 3 → cur[j]? = (flat fs)[j]?) := hcell
    have HG : Hid (w1.heap[g]? = some (.cells cur 30 (0, 0))) := hg
    have hglt : g < w1.heap.size := (Array.getElem?_eq_some_iff.1 hg).1
    clear hcell htake hl hcs hcm hg
    go_wp2_with fail
    go_loopg [10] fs.length (fun gf s10 wx => ∃ i : Nat, s10 = .int .i64 i ∧ i ≤ fs.length ∧ fs.length ≤ i + gf ∧ Hid (Below w1.heap.size w1 wx))
    case atStart => exact ⟨0, rfl, by omega, by omega, Below.refl _ _⟩
    case round =>
      obtain ⟨i, rfl, hi1, hgf, HB⟩ := hrel
      by_cases hi : i < fs.length
      · obtain ⟨g', rfl⟩ : ∃ g', gk = g' + 1 := ⟨gk - 1, by omega⟩
        have hgr : wr.heap[g]? = some (.cells cur 30 (0, 0)) := by rw [HB.out.block _ hglt]; exact HG.out
        obtain ⟨f0, f1, f2⟩ := flat_at fs i hi
        rw [← HCE.out _ (by omega)] at f0 f1 f2
        have s1 := HS.out _ (List.getElem_mem hi)
        obtain ⟨⟨n, d, y⟩, hf⟩ : ∃ f, fs[i] = f := ⟨_, rfl⟩
        rw [hf] at f0 f1 f2 s1
        simp only at f0 f1 f2 s1
        have c0 := cell_of_row hgr f0
        have c1 := cell_of_row hgr f1
        have c2 := cell_of_row hgr f2
        have z0 : (0 : Int) ≤ (i : Int) := by omega
        have z1 : (i : Int) < (fs.length : Int) := by omega
        have HF0 : Hid (cur[i * 3]? = some (.int .i64 n) ∧ cur[i * 3 + 1]? = some (.int .i64 d) ∧ cur[i * 3 + 2]? = some (.string y)) := ⟨f0, f1, f2⟩
        obtain ⟨W1, hW1⟩ : ∃ W1, wr.alloc (.cells #[.int .i64 n, .int .i64 d, .string y] 30) = W1 := ⟨_, rfl⟩
        have hbx : W1.heap[wr.heap.size]? = some (.cells #[.int .i64 n, .int .i64 d, .string y] 30 (0, 0)) := by rw [← hW1]; exact heap_alloc_new wr _
        have hltx : wr.heap.size < W1.heap.size := (Array.getElem?_eq_some_iff.1 hbx).1
        have HB2 : Hid (Below w1.heap.size w1 W1) := by rw [← hW1]; exact HB.out.alloc HB.out.size _
        have b0 := cell_of_row (k := 0) hbx rfl
        have b1 := cell_of_row (k := 1) hbx rfl
        have b2 := cell_of_row (k := 2) hbx rfl
        have K1 : Hid (Calls Try.prog 26 #[.agg #[.int .i64 n, .int .i64 d, .string y]] W1 fun e w' => e = .returned (.agg #[.int .i64 n, .int .i64 d, .string y]) ∧ Below W1.heap.size W1 w') := newPacket_any n d y W1 s1
        clear hbx hgr f0 f1 f2 s1 hf HB
        go_wp2_with fail
        refine K1.out.mono ?_
        rintro e w2 ⟨rfl, hb2⟩
        have hB2 : Below w1.heap.size w1 w2 := HB2.out.trans (hb2.mono HB2.out.size)
        have hg2 : w2.heap[g]? = some (.cells cur 30 (0, 0)) := by rw [hB2.block _ hglt]; exact HG.out
        have t0 : w2.setCell ⟨g, i * 3, none⟩ (.int .i64 n) = w2 := setCell_self hg2 HF0.out.1
        have t1 : w2.setCell ⟨g, i * 3 + 1, none⟩ (.int .i64 d) = w2 := setCell_self hg2 HF0.out.2.1
        have t2 : w2.setCell ⟨g, i * 3 + 2, none⟩ (.string y) = w2 := setCell_self hg2 HF0.out.2.2
        have p0 := cell_of_row hg2 HF0.out.1
        have p1 := cell_of_row hg2 HF0.out.2.1
        have p2 := cell_of_row hg2 HF0.out.2.2
        have r0 := frozen_zero hg2 (i * 3)
        have r1 := frozen_zero hg2 (i * 3 + 1)
        have r2 := frozen_zero hg2 (i * 3 + 2)
        have HB3 : Hid (Below w1.heap.size w1 w2) := hB2
        clear K1 hb2 hB2 hg2 b0 b1 b2 c0 c1 c2
        go_wp2_with fail
        go_roundg g'
        case measure => omega
        case rel => exact ⟨i + 1, by go_num, by omega, by omega, HB3⟩
      · have z1 : ¬ (i : Int) < (fs.length : Int) := by omega
        have hBr : Below W0.heap.size W0 wr := HB1.out.trans (HB.out.mono HB1.out.size)
        have k0 := HG0.out wr hBr
        have HOr : OwnP W0.heap.size wr (.slice (some ⟨g, 0, none⟩) fs.length cap) fs := HO1.out.below HB.out
        obtain ⟨⟨o1, e1⟩, e2, e3, e4⟩ := set_row k0 (k := 0) (by simp) (.slice (some ⟨g, 0, none⟩) fs.length cap)
        obtain ⟨Wz, hWz⟩ : ∃ Wz, wr.setCell ⟨w.heap.size, 0, none⟩ (.slice (some ⟨g, 0, none⟩) fs.length cap) = Wz := ⟨_, rfl⟩
        rw [hWz] at e3 e4
        have d0 : Wz.cell? ⟨w.heap.size, 0, none⟩ = some (.slice (some ⟨g, 0, none⟩) fs.length cap) := cell_of_row e3 rfl
        have HF : Hid (OwnP w.heap.size Wz (.slice (some ⟨g, 0, none⟩) fs.length cap) fs ∧ Below w.heap.size w Wz) := by
          refine ⟨?_, e4 _ _ (HB0.out.trans (hBr.mono HB0.out.size)) (Nat.le_refl _)⟩
          obtain ⟨hl, ⟨e, _⟩ | ⟨g', cap', cur', e, h1, h2, r⟩⟩ := HOr
          · cases e
          · simp only [Value.slice.injEq, Option.some.injEq, Addr.mk.injEq, and_true, true_and] at e
            obtain ⟨rfl, rfl⟩ := e
            have hz := HZ0.out
            refine ⟨hl, .inr ⟨g, cap, cur', rfl, by omega, ?_, r⟩⟩
            rw [← hWz, heap_setCell_other _ _ _ _ (by show g ≠ w.heap.size; omega)]
            exact h2
        clear hBr k0 HOr e3 e4 HB
        go_wp2_with fail
        exact bodyPost_ret (v := .agg #[.slice (some ⟨g, 0, none⟩) fs.length cap]) (by simp [results, Try.results23, go_sem, d0]) rfl ⟨_, rfl, HF.out⟩
end Go.Proofs.Ytnfgfbmkeiimlaa
