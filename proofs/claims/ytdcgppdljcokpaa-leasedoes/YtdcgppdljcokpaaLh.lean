/- A beat that is believed; any beat. -/
import Derived.Test.YtdcgppdljcokpaaLg
namespace Go.Proofs.Ytdcgppdljcokpaa
open Go.Shelf Go.RowKit Go.Lib Go.Sort
set_option linter.unusedVariables false
set_option linter.unusedSimpArgs false
attribute [local go_sem ↓] Go.wp_at_zero Go.wp_at_succ
set_option maxRecDepth 100000 in
set_option maxHeartbeats 8000000 in
theorem beat_good (u v : Value) (bs ss : List Int) (node boot now : Int) (w : World) (h : NumsL w u bs) (h' : NumsL w v ss) (hok : okL bs ss) (hr : refE bs ss node boot now = 0) (hbo : 0 ≤ boot ∧ boot < 18446744073709551616) (hno : 0 ≤ now ∧ now < 18446744073709551616) :
    Calls Try.prog 10 #[.agg #[u, v], .int .i64 node, .int .u64 boot, .int .u64 now] w fun e w' => BeatP (bs.set node.toNat boot) (ss.set node.toNat now) (!(bs.getD node.toNat 0 == boot)) 0 w e w' := by
  have hnk : 1 ≤ node ∧ node < (bs.length : Int) := by
    unfold refE at hr
    split at hr
    · omega
    · omega
  have hl0 : 0 < bs.length := by have := hok.2.1; omega
  have hl1 : 0 < ss.length := by have := hok.2.1; have := hok.1; omega
  obtain ⟨W0, hW0⟩ : ∃ W0, (w.alloc (.cells #[u, v] 24)).alloc (.cells #[.slice none 0 0, .slice none 0 0] 24) = W0 := ⟨_, rfl⟩
  have hb0 : Below w.heap.size w W0 := by rw [← hW0]; exact two_below _ _ _
  have hs0 : W0.heap.size = w.heap.size + 2 := by rw [← hW0]; simp
  have g0 : W0.heap[w.heap.size]? = some (.cells #[u, v] 24 (0, 0)) := by rw [← hW0, heap_alloc_old _ _ (by simp)]; exact heap_alloc_new w _
  have g1 : W0.heap[w.heap.size + 1]? = some (.cells #[.slice none 0 0, .slice none 0 0] 24 (0, 0)) := by
    rw [← hW0]
    have := heap_alloc_new (w.alloc (.cells #[u, v] 24)) (.cells #[.slice none 0 0, .slice none 0 0] 24)
    simpa using this
  have HG : Hid (∀ W, Below W0.heap.size W0 W → W.heap[w.heap.size]? = some (.cells #[u, v] 24 (0, 0)) ∧ W.heap[w.heap.size + 1]? = some (.cells #[.slice none 0 0, .slice none 0 0] 24 (0, 0))) := fun W hb =>
    ⟨by rw [hb.block _ (by omega)]; exact g0, by rw [hb.block _ (by omega)]; exact g1⟩
  have x0 := cell_of_row (k := 0) g0 rfl
  have x1 := cell_of_row (k := 1) g0 rfl
  have HB0 : Hid (Below w.heap.size w W0) := hb0
  have CK : Hid (Calls Try.prog 16 #[.agg #[u, v]] W0 fun e w' => e = .returned (.int .i64 0) ∧ Below W0.heap.size W0 w') := by
    have := check_any u v bs ss W0 (h.below hb0) (h'.below hb0)
    rwa [chL_ok hok] at this
  have CA : Hid (∀ W, Below w.heap.size w W → Calls Try.prog 19 #[u] W fun e w' => ∃ g c cur, e = .returned (.slice (some ⟨g, 0, none⟩) bs.length c) ∧ RowN W w' g c cur bs) := fun W hb => clone_row u bs w W hb h hl0
  have CB : Hid (∀ W, Below w.heap.size w W → Calls Try.prog 19 #[v] W fun e w' => ∃ g c cur, e = .returned (.slice (some ⟨g, 0, none⟩) ss.length c) ∧ RowN W w' g c cur ss) := fun W hb => clone_row v ss w W hb h' hl1
  have CR : Hid (∀ W, Below w.heap.size w W → Calls Try.prog 20 #[.agg #[u, v], .int .i64 node, .int .u64 boot, .int .u64 now] W fun e w' => e = .returned (.int .i64 (refE bs ss node boot now)) ∧ Below W.heap.size W w') := fun W hb => refuse_any u v bs ss node boot now W (h.below hb) (h'.below hb) hok
  rw [hr] at CR
  obtain ⟨k, rfl⟩ : ∃ k : Nat, node = (k : Int) := ⟨node.toNat, by omega⟩
  have hk : k < bs.length := by omega
  have hk' : k < ss.length := by have := hok.1; omega
  have eg : bs.getD (k : Int).toNat 0 = bs[k] := by simp [hk]
  rw [eg, Int.toNat_natCast]
  have HO : Hid ((0 ≤ boot ∧ boot < 18446744073709551616) ∧ (0 ≤ now ∧ now < 18446744073709551616)) := ⟨hbo, hno⟩
  have HU : Hid (InU bs ∧ InU ss ∧ bs.length * 8 ≤ 140737488355328 ∧ ss.length * 8 ≤ 140737488355328) := ⟨h.inU, h'.inU, h.many, h'.many⟩
  obtain ⟨p, c, rfl, _, _, _, _, _, hp⟩ := h
  obtain ⟨b, o, rfl, hlt, hc⟩ := hp hl0
  have HC : Hid (∀ W, Below w.heap.size w W → W.cell? ⟨b, o + k, none⟩ = some (.int .u64 bs[k])) := fun W hb => (hc.below hlt hb) k hk
  obtain ⟨x, hxk⟩ : ∃ x, bs[k] = x := ⟨_, rfl⟩
  rw [hxk] at HC ⊢
  obtain ⟨q, d, rfl, _⟩ := h'
  have zk0 : (0 : Int) ≤ (k : Int) := by omega
  have zk1 : (k : Int) < (bs.length : Int) := by omega
  have zk2 : (k : Int) < (ss.length : Int) := by omega
  clear hr hok hl0 hl1 hb0 hs0 g0 g1 hp hc hxk eg hnk hbo hno
  go_enter Try.func10, Try.ntmps10
  go_wp2_with fail
  refine CK.out.mono ?_
  rintro e w1 ⟨rfl, hb1⟩
  have HB1 : Hid (Below W0.heap.size W0 w1) := hb1
  have HBw : Hid (Below w.heap.size w w1) := HB0.out.trans (hb1.mono HB0.out.size)
  have y0 : w1.cell? ⟨w.heap.size, 0, none⟩ = some (.slice (some ⟨b, o, none⟩) bs.length c) := cell_of_row (k := 0) (HG.out w1 hb1).1 rfl
  have y1 : w1.cell? ⟨w.heap.size, 1, none⟩ = some (.slice q ss.length d) := cell_of_row (k := 1) (HG.out w1 hb1).1 rfl
  have hwl : w.heap.size < w1.heap.size := (Array.getElem?_eq_some_iff.1 (HG.out w1 hb1).1).1
  clear CK hb1 x0 x1
  have HX1 : Hid (Below w1.heap.size w1 w1.drew) := (Below.refl _ _).drew
  have HX2 : Hid (Below w1.heap.size w1 (w1.alloc (.cells #[.slice none 0 0, .slice none 0 0] 24)).drew) := (one_below _ _).drew
  have n0 := World.new_ne w1 ⟨w.heap.size, 0, none⟩ y0
  have n1 := World.new_ne w1 ⟨w.heap.size, 1, none⟩ y1
  go_wp2_with fail
  go_region_held3 (fun w' => w'.cell? ⟨w.heap.size, 0, none⟩ = some (.slice (some ⟨b, o, none⟩) bs.length c) ∧ w'.cell? ⟨w.heap.size, 1, none⟩ = some (.slice q ss.length d))
    (first
      | exact ⟨(HBz.out.cell (p := ⟨w.heap.size, 0, none⟩) hwl).trans y0, (HBz.out.cell (p := ⟨w.heap.size, 1, none⟩) hwl).trans y1⟩
      | exact ⟨(HBv.out.cell (p := ⟨w.heap.size, 0, none⟩) hwl).trans y0, (HBv.out.cell (p := ⟨w.heap.size, 1, none⟩) hwl).trans y1⟩
      | exact ⟨(HBb.out.cell (p := ⟨w.heap.size, 0, none⟩) hwl).trans y0, (HBb.out.cell (p := ⟨w.heap.size, 1, none⟩) hwl).trans y1⟩
      | exact ⟨(HBu.out.cell (p := ⟨w.heap.size, 0, none⟩) hwl).trans y0, (HBu.out.cell (p := ⟨w.heap.size, 1, none⟩) hwl).trans y1⟩
      | exact ⟨(HBa.out.cell (p := ⟨w.heap.size, 0, none⟩) hwl).trans y0, (HBa.out.cell (p := ⟨w.heap.size, 1, none⟩) hwl).trans y1⟩
      | exact ⟨(HX2.out.cell (p := ⟨w.heap.size, 0, none⟩) hwl).trans y0, (HX2.out.cell (p := ⟨w.heap.size, 1, none⟩) hwl).trans y1⟩
      | go_keep)
    ((first
      | (go_at_call 19; first
        | (refine (CB.out wA (HBw.out.trans (HBa.out.mono HBw.out.size))).mono ?_; rintro e wB ⟨gb, cb, curB, rfl, hRB⟩; have gi := hbi.out
           have HBb : Hid (Below w1.heap.size w1 wB) := HBa.out.trans (hRB.below.mono HBa.out.size); have gi2 : wB.heap[w1.heap.size]? = some (.cells #[.slice none 0 0, .slice none 0 0] 24 (0, 0)) := by rw [hRB.below.block _ (Array.getElem?_eq_some_iff.1 gi).1]; exact gi
           obtain ⟨Wa, Wz, hWa, hWz, p1, p2, p3, p4, p5, p6, p7, p8, p9, p10⟩ := set_two gi2 (.slice (some ⟨ga, 0, none⟩) bs.length ca) (.slice (some ⟨gb, 0, none⟩) ss.length cb)
           have HT : Hid (Told w1 Wz w1.heap.size ga ca gb cb bs ss) := told_of HX2.out HRA.out (Below.refl _ _) hRB (Below.refl _ _) (Nat.le_refl _) (by have := HRA.out.new; simp at this; omega) (by have := hRB.new; have := (Array.getElem?_eq_some_iff.1 gi).1; omega) p7 p8 p10
           have HBz : Hid (Below w1.heap.size w1 Wz) := HT.out.below; clear p7 p8 p9 p10 gi gi2 hRB)
        | (refine (CB.out (wA.alloc (.cells #[.slice none 0 0, .slice none 0 0] 24)) (HBw.out.trans (HBu.out.mono HBw.out.size))).mono ?_; rintro e wB ⟨gb, cb, curB, rfl, hRB⟩
           have HBb : Hid (Below w1.heap.size w1 wB) := HBu.out.trans (hRB.below.mono HBu.out.size); have gi2 : wB.heap[wA.heap.size]? = some (.cells #[.slice none 0 0, .slice none 0 0] 24 (0, 0)) := by (rw [hRB.below.block _ (by simp)]; exact heap_alloc_new _ _)
           obtain ⟨Wa, Wz, hWa, hWz, p1, p2, p3, p4, p5, p6, p7, p8, p9, p10⟩ := set_two gi2 (.slice (some ⟨ga, 0, none⟩) bs.length ca) (.slice (some ⟨gb, 0, none⟩) ss.length cb)
           have HT : Hid (Told w1 Wz wA.heap.size ga ca gb cb bs ss) := told_of HX1.out HRA.out (one_below _ _) hRB (Below.refl _ _) (HBa.out.size) (by have := HRA.out.lt; omega) (by have := hRB.new; simp at this; omega) p7 p8 p10
           have HBz : Hid (Below w1.heap.size w1 Wz) := HT.out.below; clear p7 p8 p9 p10 gi2 hRB)
        | (refine (CB.out wA (HBw.out.trans (HBa.out.mono HBw.out.size))).mono ?_; rintro e wB ⟨gb, cb, curB, rfl, hRB⟩
           have HBb : Hid (Below w1.heap.size w1 wB) := HBa.out.trans (hRB.below.mono HBa.out.size)
           have HBv : Hid (Below w1.heap.size w1 (wB.alloc (.cells #[.slice none 0 0, .slice none 0 0] 24))) := HBb.out.alloc HBb.out.size _
           obtain ⟨Wa, Wz, hWa, hWz, p1, p2, p3, p4, p5, p6, p7, p8, p9, p10⟩ := set_two (W := wB.alloc (.cells #[.slice none 0 0, .slice none 0 0] 24)) (heap_alloc_new wB _) (.slice (some ⟨ga, 0, none⟩) bs.length ca) (.slice (some ⟨gb, 0, none⟩) ss.length cb)
           have HT : Hid (Told w1 Wz wB.heap.size ga ca gb cb bs ss) := told_of HX1.out HRA.out (Below.refl _ _) hRB (one_below _ _) (HBb.out.size) (by have := HRA.out.lt; have := hRB.below.size; omega) (by have := hRB.lt; omega) p7 p8 p10
           have HBz : Hid (Below w1.heap.size w1 Wz) := HT.out.below; clear p7 p8 p9 p10 hRB)
        | (refine (CA.out (w1.alloc (.cells #[.slice none 0 0, .slice none 0 0] 24)).drew (HBw.out.trans (HX2.out.mono HBw.out.size))).mono ?_; rintro e wA ⟨ga, ca, curA, rfl, hRA⟩
           have HBa : Hid (Below w1.heap.size w1 wA) := HX2.out.trans (hRA.below.mono HX2.out.size); have hbi : Hid (wA.heap[w1.heap.size]? = some (.cells #[.slice none 0 0, .slice none 0 0] 24 (0, 0))) := by (show _ = _; rw [hRA.below.block _ (by simp)]; exact heap_alloc_new _ _)
           have HRA : Hid _ := hRA; clear hRA)
        | (refine (CA.out w1.drew (HBw.out.trans (HX1.out.mono HBw.out.size))).mono ?_; rintro e wA ⟨ga, ca, curA, rfl, hRA⟩
           have HBa : Hid (Below w1.heap.size w1 wA) := HX1.out.trans (hRA.below.mono HX1.out.size); have HRA : Hid _ := hRA; have HBu : Hid (Below w1.heap.size w1 (wA.alloc (.cells #[.slice none 0 0, .slice none 0 0] 24))) := HBa.out.alloc HBa.out.size _; clear hRA))))
  all_goals (
    have z0 : Wz.cell? ⟨w.heap.size, 0, none⟩ = some (.slice (some ⟨b, o, none⟩) bs.length c) := (HBz.out.cell (p := ⟨w.heap.size, 0, none⟩) hwl).trans y0
    have z1 : Wz.cell? ⟨w.heap.size, 1, none⟩ = some (.slice q ss.length d) := (HBz.out.cell (p := ⟨w.heap.size, 1, none⟩) hwl).trans y1
    have K2 := CR.out Wz (HBw.out.trans (HBz.out.mono HBw.out.size))
    clear hWa hWz p1 p2 p3 p4 p5 p6 n0 n1 CA CB CR HBb HRA
    go_wp2_with fail
    refine K2.mono ?_
    rintro e w2 ⟨rfl, hb2⟩
    have HT2 : Hid (Told w1 w2 _ ga ca gb cb bs ss) := HT.out.later hb2
    have t0 := cell_of_row (k := 0) (v := .slice (some ⟨ga, 0, none⟩) bs.length ca) HT2.out.box rfl
    have t1 := cell_of_row (k := 1) (v := .slice (some ⟨gb, 0, none⟩) ss.length cb) HT2.out.box rfl
    obtain ⟨⟨oa, ca1⟩, fa, hTa⟩ := HT2.out.seta k boot hk
    obtain ⟨Wx, hWx⟩ : ∃ Wx, w2.setCell ⟨ga, k, none⟩ (.int .u64 boot) = Wx := ⟨_, rfl⟩
    rw [hWx] at hTa
    obtain ⟨⟨ob, cb1⟩, fb, hTb⟩ := hTa.setb k now hk'
    obtain ⟨Wy, hWy⟩ : ∃ Wy, Wx.setCell ⟨gb, k, none⟩ (.int .u64 now) = Wy := ⟨_, rfl⟩
    rw [hWy] at hTb
    have t2 := cell_of_row (k := 1) (v := .slice (some ⟨gb, 0, none⟩) ss.length cb) hTa.box rfl
    have HT4 : Hid (Told w1 Wy _ ga ca gb cb (bs.set k boot) (ss.set k now)) := hTb
    have hbx := hTb.box
    rw [List.length_set, List.length_set] at hbx
    have t3 : Wy.drew.cell? _ = _ := cell_of_row (k := 0) (v := .slice (some ⟨ga, 0, none⟩) bs.length ca) hbx rfl
    have t4 : Wy.drew.cell? _ = _ := cell_of_row (k := 1) (v := .slice (some ⟨gb, 0, none⟩) ss.length cb) hbx rfl
    have hbW : Below W0.heap.size W0 Wy := HB1.out.trans (hTb.below.mono HB1.out.size)
    obtain ⟨Va, Vz, hVa, hVz, r1, r2, r3, r4, r5, r6, r7, r8, r9, r10⟩ := set_two (W := Wy.drew) (HG.out Wy hbW).2 (.slice (some ⟨ga, 0, none⟩) bs.length ca) (.slice (some ⟨gb, 0, none⟩) ss.length cb)
    have hbz : Below w.heap.size w Vz := r10 _ _ (HBw.out.trans (hTb.below.mono HBw.out.size)).drew (by omega)
    have HF : Hid (NumsL Vz (.slice (some ⟨ga, 0, none⟩) (bs.set k boot).length ca) (bs.set k boot) ∧ NumsL Vz (.slice (some ⟨gb, 0, none⟩) (ss.set k now).length cb) (ss.set k now) ∧ Below w.heap.size w Vz) := by
      obtain ⟨f1, f2⟩ := hTb.nums (r := w.heap.size + 1) (W' := Vz) (by have := (Array.getElem?_eq_some_iff.1 (HG.out w1 HB1.out).2).1; omega) r8 ⟨HU.out.1.set _ _ HO.out.1, HU.out.2.1.set _ _ HO.out.2, by rw [List.length_set]; exact HU.out.2.2.1, by rw [List.length_set]; exact HU.out.2.2.2⟩
      exact ⟨f1, f2, hbz⟩
    have m0 : Wy.drew.cell? ⟨w.heap.size, 0, none⟩ = some (.slice (some ⟨b, o, none⟩) bs.length c) := cell_of_row (W := Wy) (k := 0) (HG.out Wy hbW).1 rfl
    have m1 : Wy.drew.cell? ⟨b, o + k, none⟩ = some (.int .u64 x) := HC.out Wy (HBw.out.trans (hTb.below.mono HBw.out.size))
    have hnej : ∀ j, w1.heap.size ≤ j → j ≠ w.heap.size + 1 := fun j hj => by have := (Array.getElem?_eq_some_iff.1 (HG.out w1 HB1.out).2).1; omega
    have hbv := (r8 _ (hnej _ hTb.new)).trans hbx
    have t5 := cell_of_row (k := 0) (v := .slice (some ⟨ga, 0, none⟩) bs.length ca) hbv rfl
    have t6 := cell_of_row (k := 1) (v := .slice (some ⟨gb, 0, none⟩) ss.length cb) hbv rfl
    have HMV := hid (P := _ ∧ _ ∧ _ ∧ _) ⟨(World.cell?_of_block (w := Wy.drew) (r8 w.heap.size (by omega))).trans m0, HC.out Vz hbz, t5, t6⟩
    have hqq : Hid ((boot != x) = !(x == boot)) := by (show _ = _; rw [bne, Bool.beq_comm])
    clear t5 t6 hnej hbv
    clear K2 hb2 r7 r8 r9 r10 hTa hTb hbx hbW hbz
    go_wp2_with fail
    first
      | (have _hv := HBv.out; clear _hv; go_region_held3 (fun w' => w'.cell? ⟨w.heap.size, 0, none⟩ = some (.slice (some ⟨b, o, none⟩) bs.length c) ∧ w'.cell? ⟨b, o + k, none⟩ = some (.int .u64 x) ∧ w'.cell? ⟨wB.heap.size, 0, none⟩ = some (.slice (some ⟨ga, 0, none⟩) bs.length ca) ∧ w'.cell? ⟨wB.heap.size, 1, none⟩ = some (.slice (some ⟨gb, 0, none⟩) ss.length cb)) (first | exact HMV.out | go_keep) (fail))
      | (have _hv := hbi.out; clear _hv; go_region_held3 (fun w' => w'.cell? ⟨w.heap.size, 0, none⟩ = some (.slice (some ⟨b, o, none⟩) bs.length c) ∧ w'.cell? ⟨b, o + k, none⟩ = some (.int .u64 x) ∧ w'.cell? ⟨w1.heap.size, 0, none⟩ = some (.slice (some ⟨ga, 0, none⟩) bs.length ca) ∧ w'.cell? ⟨w1.heap.size, 1, none⟩ = some (.slice (some ⟨gb, 0, none⟩) ss.length cb)) (first | exact HMV.out | go_keep) (fail))
      | (go_region_held3 (fun w' => w'.cell? ⟨w.heap.size, 0, none⟩ = some (.slice (some ⟨b, o, none⟩) bs.length c) ∧ w'.cell? ⟨b, o + k, none⟩ = some (.int .u64 x) ∧ w'.cell? ⟨wA.heap.size, 0, none⟩ = some (.slice (some ⟨ga, 0, none⟩) bs.length ca) ∧ w'.cell? ⟨wA.heap.size, 1, none⟩ = some (.slice (some ⟨gb, 0, none⟩) ss.length cb)) (first | exact HMV.out | go_keep) (fail))
    all_goals go_wp2_with fail
    all_goals exact bodyPost_ret (v := .tuple #[.agg #[.slice (some ⟨ga, 0, none⟩) bs.length ca, .slice (some ⟨gb, 0, none⟩) ss.length cb], .bool (boot != x), .int .i64 0]) (by simp [results, Try.results10, go_sem, r5, r6]) rfl ⟨_, ca, _, cb, by rw [List.length_set, List.length_set, hqq.out], HF.out⟩)
set_option maxRecDepth 100000 in
set_option maxHeartbeats 4000000 in
theorem beat_bad (u v : Value) (bs ss : List Int) (node boot now : Int) (w : World) (h : NumsL w u bs) (h' : NumsL w v ss) (hok : ¬ okL bs ss) :
    Calls Try.prog 10 #[.agg #[u, v], .int .i64 node, .int .u64 boot, .int .u64 now] w fun e w' => BeatP [] [] false 6 w e w' := by
  obtain ⟨W0, hW0⟩ : ∃ W0, (w.alloc (.cells #[u, v] 24)).alloc (.cells #[.slice none 0 0, .slice none 0 0] 24) = W0 := ⟨_, rfl⟩
  have hb0 : Below w.heap.size w W0 := by rw [← hW0]; exact two_below _ _ _
  have hs0 : W0.heap.size = w.heap.size + 2 := by rw [← hW0]; simp
  have g0 : W0.heap[w.heap.size]? = some (.cells #[u, v] 24 (0, 0)) := by rw [← hW0, heap_alloc_old _ _ (by simp)]; exact heap_alloc_new w _
  have g1 : W0.heap[w.heap.size + 1]? = some (.cells #[.slice none 0 0, .slice none 0 0] 24 (0, 0)) := by
    rw [← hW0]
    have := heap_alloc_new (w.alloc (.cells #[u, v] 24)) (.cells #[.slice none 0 0, .slice none 0 0] 24)
    simpa using this
  have HG : Hid (∀ W, Below W0.heap.size W0 W → W.heap[w.heap.size + 1]? = some (.cells #[.slice none 0 0, .slice none 0 0] 24 (0, 0))) := fun W hb => by rw [hb.block _ (by omega)]; exact g1
  have x0 := cell_of_row (k := 0) g0 rfl
  have x1 := cell_of_row (k := 1) g0 rfl
  have HB0 : Hid (Below w.heap.size w W0) := hb0
  have CK : Hid (Calls Try.prog 16 #[.agg #[u, v]] W0 fun e w' => e = .returned (.int .i64 6) ∧ Below W0.heap.size W0 w') := by
    have := check_any u v bs ss W0 (h.below hb0) (h'.below hb0)
    rwa [chL_no hok] at this
  obtain ⟨p, c, rfl, _⟩ := h
  obtain ⟨q, d, rfl, _⟩ := h'
  clear hok hb0 hs0 g0 g1
  go_enter Try.func10, Try.ntmps10
  go_wp2_with fail
  refine CK.out.mono ?_
  rintro e w1 ⟨rfl, hb1⟩
  have hg1 := HG.out w1 hb1
  have t0 : w1.setCell ⟨w.heap.size + 1, 0, none⟩ (.slice none 0 0) = w1 := setCell_self hg1 rfl
  have t1 : w1.setCell ⟨w.heap.size + 1, 1, none⟩ (.slice none 0 0) = w1 := setCell_self hg1 rfl
  have y0 := cell_of_row (k := 0) hg1 rfl
  have y1 := cell_of_row (k := 1) hg1 rfl
  have f0 := frozen_zero hg1 0
  have f1 := frozen_zero hg1 1
  have HB1 : Hid (Below w.heap.size w w1) := HB0.out.trans (hb1.mono HB0.out.size)
  clear CK hb1 hg1 x0 x1
  go_wp2_with fail
  exact bodyPost_ret (v := .tuple #[.agg #[.slice none 0 0, .slice none 0 0], .bool false, .int .i64 6]) (by simp [results, Try.results10, go_sem, y0, y1]) rfl ⟨none, 0, none, 0, rfl, NumsL.nil _, NumsL.nil _, HB1.out⟩
theorem Beat_any (u v : Value) (bs ss : List Int) (node boot now : Int) (w : World) (h : NumsL w u bs) (h' : NumsL w v ss) (hbo : 0 ≤ boot ∧ boot < 18446744073709551616) (hno : 0 ≤ now ∧ now < 18446744073709551616) :
    Calls Try.prog 10 #[.agg #[u, v], .int .i64 node, .int .u64 boot, .int .u64 now] w fun e w' => BeatP (btB bs ss node boot now) (btS bs ss node boot now) (btF bs ss node boot now) (btE bs ss node boot now) w e w' := by
  unfold btB btS btF btE
  by_cases hc : chL bs ss = 0
  · have hok := chL_zero.1 hc
    by_cases hr : refE bs ss node boot now = 0
    · rw [if_pos hc, if_pos hc, if_pos hc, if_pos hr, if_pos hr, if_pos ⟨hc, hr⟩, hr]
      exact beat_good u v bs ss node boot now w h h' hok hr hbo hno
    · rw [if_pos hc, if_pos hc, if_pos hc, if_neg hr, if_neg hr, if_neg (fun x => hr x.2)]
      exact beat_told u v bs ss node boot now w h h' hok hr
  · rw [if_neg hc, if_neg hc, if_neg hc, if_neg (fun x => hc x.1)]
    exact beat_bad u v bs ss node boot now w h h' (fun x => hc (chL_zero.2 x))
end Go.Proofs.Ytdcgppdljcokpaa
