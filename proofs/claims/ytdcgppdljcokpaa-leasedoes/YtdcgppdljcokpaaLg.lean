/- A beat. -/
import Derived.Test.YtdcgppdljcokpaaLf
namespace Go.Proofs.Ytdcgppdljcokpaa
open Go.Shelf Go.RowKit Go.Lib Go.Sort
set_option linter.unusedVariables false
set_option linter.unusedSimpArgs false
attribute [local go_sem ↓] Go.wp_at_zero Go.wp_at_succ
/-- A list in new memory. -/
structure RowN (W w' : World) (g c : Nat) (cur : Array Value) (zs : List Int) : Prop where
  new : W.heap.size ≤ g
  lt : g < w'.heap.size
  row : w'.heap[g]? = some (.cells cur 25 (0, 0))
  cap : zs.length ≤ c
  most : c ≤ 9223372036854775807
  cells : ∀ j (h : j < zs.length), cur[j]? = some (.int .u64 zs[j])
  below : Below W.heap.size W w'
theorem clone_row (v : Value) (zs : List Int) (w W : World) (hb : Below w.heap.size w W) (hz : NumsL w v zs) (h0 : 0 < zs.length) :
    Calls Try.prog 19 #[v] W fun e w' => ∃ g c cur, e = .returned (.slice (some ⟨g, 0, none⟩) zs.length c) ∧ RowN W w' g c cur zs := by
  refine (clone_any v zs W (hz.below hb) h0).mono ?_
  rintro e w' ⟨u, rfl, ho, hb'⟩
  obtain ⟨g, c, cur, rfl, h1, h2, h3, h4, h5, h6, h7⟩ := own_cell ho h0
  exact ⟨g, c, cur, rfl, h1, h2, h3, h5, h6, h7, hb'⟩
/-- The box of the leases that are told. -/
structure Told (w1 W : World) (g ga ca gb cb : Nat) (bs ss : List Int) : Prop where
  new : w1.heap.size ≤ g
  box : W.heap[g]? = some (.cells #[.slice (some ⟨ga, 0, none⟩) bs.length ca, .slice (some ⟨gb, 0, none⟩) ss.length cb] 24 (0, 0))
  newa : w1.heap.size ≤ ga
  newb : w1.heap.size ≤ gb
  ne : ga ≠ gb
  nea : g ≠ ga
  neb : g ≠ gb
  rowa : ∃ cur, W.heap[ga]? = some (.cells cur 25 (0, 0)) ∧ ∀ j (h : j < bs.length), cur[j]? = some (.int .u64 bs[j])
  rowb : ∃ cur, W.heap[gb]? = some (.cells cur 25 (0, 0)) ∧ ∀ j (h : j < ss.length), cur[j]? = some (.int .u64 ss[j])
  capa : bs.length ≤ ca ∧ ca ≤ 9223372036854775807
  capb : ss.length ≤ cb ∧ cb ≤ 9223372036854775807
  below : Below w1.heap.size w1 W
theorem told_of {w1 wA wB V Wz : World} {W1 W2 : World} {g ga ca gb cb : Nat} {curA curB : Array Value} {bs ss : List Int} (h1 : Below w1.heap.size w1 W1) (hA : RowN W1 wA ga ca curA bs) (h2 : Below wA.heap.size wA W2) (hB : RowN W2 wB gb cb curB ss)
    (hV : Below wB.heap.size wB V) (hg : w1.heap.size ≤ g) (hga : g ≠ ga) (hgb : g ≠ gb)
    (hz : Wz.heap[g]? = some (.cells #[.slice (some ⟨ga, 0, none⟩) bs.length ca, .slice (some ⟨gb, 0, none⟩) ss.length cb] 24 (0, 0))) (ho : ∀ j, j ≠ g → Wz.heap[j]? = V.heap[j]?) (hb : ∀ B w0, Below B w0 V → B ≤ g → Below B w0 Wz) : Told w1 Wz g ga ca gb cb bs ss := by
  have b1 := h1.size
  have b2 := hA.below.size
  have b3 := h2.size
  have b4 := hB.below.size
  have a1 := hA.new
  have a2 := hA.lt
  have a3 := hB.new
  have a4 := hB.lt
  have hAW : Below wA.heap.size wA V := (h2.trans (hB.below.mono h2.size)).trans (hV.mono (by omega))
  refine ⟨hg, hz, by omega, by omega, by omega, hga, hgb, ⟨curA, ?_, hA.cells⟩, ⟨curB, ?_, hB.cells⟩, ⟨hA.cap, hA.most⟩, ⟨hB.cap, hB.most⟩, hb _ _ ?_ hg⟩
  · rw [ho _ (fun e => hga e.symm), hAW.block _ a2]; exact hA.row
  · rw [ho _ (fun e => hgb e.symm), hV.block _ a4]; exact hB.row
  · exact (h1.trans (hA.below.mono h1.size)).trans (hAW.mono (by omega))
theorem Told.nums {w1 W W' : World} {g ga ca gb cb r : Nat} {bs ss : List Int} (h : Told w1 W g ga ca gb cb bs ss) (hr : r < w1.heap.size) (ho : ∀ j, j ≠ r → W'.heap[j]? = W.heap[j]?) (hU : InU bs ∧ InU ss ∧ bs.length * 8 ≤ 140737488355328 ∧ ss.length * 8 ≤ 140737488355328) :
    NumsL W' (.slice (some ⟨ga, 0, none⟩) bs.length ca) bs ∧ NumsL W' (.slice (some ⟨gb, 0, none⟩) ss.length cb) ss := by
  obtain ⟨ca', ra, za⟩ := h.rowa
  obtain ⟨cb', rb, zb⟩ := h.rowb
  have na := h.newa
  have nb := h.newb
  have ra' : W'.heap[ga]? = some (.cells ca' 25 (0, 0)) := by rw [ho _ (by omega)]; exact ra
  have rb' : W'.heap[gb]? = some (.cells cb' 25 (0, 0)) := by rw [ho _ (by omega)]; exact rb
  refine ⟨⟨_, ca, rfl, h.capa.1, h.capa.2, hU.2.2.1, hU.1, (fun h => by cases h), fun _ => ⟨ga, 0, rfl, (Array.getElem?_eq_some_iff.1 ra').1, fun j hj => ?_⟩⟩, ⟨_, cb, rfl, h.capb.1, h.capb.2, hU.2.2.2, hU.2.1, (fun h => by cases h), fun _ => ⟨gb, 0, rfl, (Array.getElem?_eq_some_iff.1 rb').1, fun j hj => ?_⟩⟩⟩
  · rw [Nat.zero_add]; exact cell_of_row ra' (za j hj)
  · rw [Nat.zero_add]; exact cell_of_row rb' (zb j hj)
theorem Told.seta {w1 W : World} {g ga ca gb cb : Nat} {bs ss : List Int} (h : Told w1 W g ga ca gb cb bs ss) (k : Nat) (x : Int) (hk : k < bs.length) :
    (∃ o, W.cell? ⟨ga, k, none⟩ = some o) ∧ W.frozen? ⟨ga, k, none⟩ = false ∧ Told w1 (W.setCell ⟨ga, k, none⟩ (.int .u64 x)) g ga ca gb cb (bs.set k x) ss := by
  obtain ⟨cur, ra, za⟩ := h.rowa
  have hks : k < cur.size := (Array.getElem?_eq_some_iff.1 (za k hk)).1
  obtain ⟨a1, a2, a3, a4⟩ := set_row ra hks (.int .u64 x)
  have ho : ∀ j, j ≠ ga → (W.setCell ⟨ga, k, none⟩ (.int .u64 x)).heap[j]? = W.heap[j]? := fun j hj => heap_setCell_other _ _ j _ hj
  refine ⟨a1, a2, h.new, ?_, h.newa, h.newb, h.ne, h.nea, h.neb, ⟨_, a3, fun j hj => ?_⟩, ?_, by rw [List.length_set]; exact h.capa, h.capb, a4 _ _ h.below h.newa⟩
  · rw [ho _ h.nea, List.length_set]; exact h.box
  · have hj' : j < bs.length := by simpa using hj
    by_cases e : k = j
    · subst e; rw [Array.getElem?_setIfInBounds_self_of_lt hks]; simp
    · rw [Array.getElem?_setIfInBounds_ne e, za j hj']; simp [List.getElem_set, e]
  · obtain ⟨cb', rb, zb⟩ := h.rowb
    exact ⟨cb', by rw [ho _ (fun e => h.ne e.symm)]; exact rb, zb⟩
theorem Told.setb {w1 W : World} {g ga ca gb cb : Nat} {bs ss : List Int} (h : Told w1 W g ga ca gb cb bs ss) (k : Nat) (x : Int) (hk : k < ss.length) :
    (∃ o, W.cell? ⟨gb, k, none⟩ = some o) ∧ W.frozen? ⟨gb, k, none⟩ = false ∧ Told w1 (W.setCell ⟨gb, k, none⟩ (.int .u64 x)) g ga ca gb cb bs (ss.set k x) := by
  obtain ⟨cur, ra, za⟩ := h.rowb
  have hks : k < cur.size := (Array.getElem?_eq_some_iff.1 (za k hk)).1
  obtain ⟨a1, a2, a3, a4⟩ := set_row ra hks (.int .u64 x)
  have ho : ∀ j, j ≠ gb → (W.setCell ⟨gb, k, none⟩ (.int .u64 x)).heap[j]? = W.heap[j]? := fun j hj => heap_setCell_other _ _ j _ hj
  refine ⟨a1, a2, h.new, ?_, h.newa, h.newb, h.ne, h.nea, h.neb, ?_, ⟨_, a3, fun j hj => ?_⟩, h.capa, by rw [List.length_set]; exact h.capb, a4 _ _ h.below h.newb⟩
  · rw [ho _ h.neb, List.length_set]; exact h.box
  · obtain ⟨cb', rb, zb⟩ := h.rowa
    exact ⟨cb', by rw [ho _ h.ne]; exact rb, zb⟩
  · have hj' : j < ss.length := by simpa using hj
    by_cases e : k = j
    · subst e; rw [Array.getElem?_setIfInBounds_self_of_lt hks]; simp
    · rw [Array.getElem?_setIfInBounds_ne e, za j hj']; simp [List.getElem_set, e]
theorem Told.later {w1 W W' : World} {g ga ca gb cb : Nat} {bs ss : List Int} (h : Told w1 W g ga ca gb cb bs ss) (hb : Below W.heap.size W W') : Told w1 W' g ga ca gb cb bs ss := by
  have hlt : ∀ {j : Nat} {o : Obj}, W.heap[j]? = some o → W'.heap[j]? = some o := fun hj => by rw [hb.block _ (Array.getElem?_eq_some_iff.1 hj).1]; exact hj
  obtain ⟨ca', ra, za⟩ := h.rowa
  obtain ⟨cb', rb, zb⟩ := h.rowb
  exact ⟨h.new, hlt h.box, h.newa, h.newb, h.ne, h.nea, h.neb, ⟨ca', hlt ra, za⟩, ⟨cb', hlt rb, zb⟩, h.capa, h.capb, h.below.trans (hb.mono h.below.size)⟩
set_option maxRecDepth 100000 in
set_option maxHeartbeats 8000000 in
theorem beat_told (u v : Value) (bs ss : List Int) (node boot now : Int) (w : World) (h : NumsL w u bs) (h' : NumsL w v ss) (hok : okL bs ss) (hr : refE bs ss node boot now ≠ 0) :
    Calls Try.prog 10 #[.agg #[u, v], .int .i64 node, .int .u64 boot, .int .u64 now] w fun e w' => BeatP bs ss false (refE bs ss node boot now) w e w' := by
  have hl0 : 0 < bs.length := by have := hok.2.1; omega
  have hl1 : 0 < ss.length := by have := hok.2.1; have := hok.1; omega
  obtain ⟨W0, hW0⟩ : ∃ W0, (w.alloc (.cells #[u, v] 24)).alloc (.cells #[.slice none 0 0, .slice none 0 0] 24) = W0 := ⟨_, rfl⟩
  have hb0 : Below w.heap.size w W0 := by rw [← hW0]; exact two_below _ _ _
  have hs0 : W0.heap.size = w.heap.size + 2 := by rw [← hW0]; simp
  have g0 : W0.heap[w.heap.size]? = some (.cells #[u, v] 24 (0, 0)) := by rw [← hW0, heap_alloc_old _ _ (by simp)]; exact heap_alloc_new w _
  have g1 : W0.heap[w.heap.size + 1]? = some (.cells #[.slice none 0 0, .slice none 0 0] 24 (0, 0)) := by
    rw [← hW0]
    have := heap_alloc_new (w.alloc (.cells #[u, v] 24)) (.cells #[.slice none 0 0, .slice none 0 0] 24)
    simpa using this
  have HG : Hid (∀ W, Below W0.heap.size W0 W → W.heap[w.heap.size]? = some (.cells #[u, v] 24 (0, 0)) ∧ W.heap[w.heap.size + 1]? = some (.cells #[.slice none 0 0, .slice none 0 0] 24 (0, 0))) := fun W hb =>
    ⟨by rw [hb.block _ (by omega)]; exact g0, by rw [hb.block _ (by omega)]; exact g1⟩
  have x0 := cell_of_row (k := 0) g0 rfl
  have x1 := cell_of_row (k := 1) g0 rfl
  have HB0 : Hid (Below w.heap.size w W0) := hb0
  have CK : Hid (Calls Try.prog 16 #[.agg #[u, v]] W0 fun e w' => e = .returned (.int .i64 0) ∧ Below W0.heap.size W0 w') := by
    have := check_any u v bs ss W0 (h.below hb0) (h'.below hb0)
    rwa [chL_ok hok] at this
  have CA : Hid (∀ W, Below w.heap.size w W → Calls Try.prog 19 #[u] W fun e w' => ∃ g c cur, e = .returned (.slice (some ⟨g, 0, none⟩) bs.length c) ∧ RowN W w' g c cur bs) := fun W hb => clone_row u bs w W hb h hl0
  have CB : Hid (∀ W, Below w.heap.size w W → Calls Try.prog 19 #[v] W fun e w' => ∃ g c cur, e = .returned (.slice (some ⟨g, 0, none⟩) ss.length c) ∧ RowN W w' g c cur ss) := fun W hb => clone_row v ss w W hb h' hl1
  have CR : Hid (∀ W, Below w.heap.size w W → Calls Try.prog 20 #[.agg #[u, v], .int .i64 node, .int .u64 boot, .int .u64 now] W fun e w' => e = .returned (.int .i64 (refE bs ss node boot now)) ∧ Below W.heap.size W w') := fun W hb => refuse_any u v bs ss node boot now W (h.below hb) (h'.below hb) hok
  obtain ⟨E, hE⟩ : ∃ E, refE bs ss node boot now = E := ⟨_, rfl⟩
  rw [hE] at CR hr ⊢
  have hne : (E != 0) = true := by simpa using hr
  have HU : Hid (InU bs ∧ InU ss ∧ bs.length * 8 ≤ 140737488355328 ∧ ss.length * 8 ≤ 140737488355328) := ⟨h.inU, h'.inU, h.many, h'.many⟩
  obtain ⟨p, c, rfl, _⟩ := h
  obtain ⟨q, d, rfl, _⟩ := h'
  clear hE hr hok hl0 hl1 hb0 hs0 g0 g1
  go_enter Try.func10, Try.ntmps10
  go_wp2_with fail
  refine CK.out.mono ?_
  rintro e w1 ⟨rfl, hb1⟩
  have HB1 : Hid (Below W0.heap.size W0 w1) := hb1
  have HBw : Hid (Below w.heap.size w w1) := HB0.out.trans (hb1.mono HB0.out.size)
  have y0 : w1.cell? ⟨w.heap.size, 0, none⟩ = some (.slice p bs.length c) := cell_of_row (k := 0) (HG.out w1 hb1).1 rfl
  have y1 : w1.cell? ⟨w.heap.size, 1, none⟩ = some (.slice q ss.length d) := cell_of_row (k := 1) (HG.out w1 hb1).1 rfl
  have hwl : w.heap.size < w1.heap.size := (Array.getElem?_eq_some_iff.1 (HG.out w1 hb1).1).1
  clear CK hb1 x0 x1
  have HX1 : Hid (Below w1.heap.size w1 w1.drew) := (Below.refl _ _).drew
  have HX2 : Hid (Below w1.heap.size w1 (w1.alloc (.cells #[.slice none 0 0, .slice none 0 0] 24)).drew) := (one_below _ _).drew
  have n0 := World.new_ne w1 ⟨w.heap.size, 0, none⟩ y0
  have n1 := World.new_ne w1 ⟨w.heap.size, 1, none⟩ y1
  go_wp2_with fail
  go_region_held3 (fun w' => w'.cell? ⟨w.heap.size, 0, none⟩ = some (.slice p bs.length c) ∧ w'.cell? ⟨w.heap.size, 1, none⟩ = some (.slice q ss.length d))
    (first
      | exact ⟨(HBz.out.cell (p := ⟨w.heap.size, 0, none⟩) hwl).trans y0, (HBz.out.cell (p := ⟨w.heap.size, 1, none⟩) hwl).trans y1⟩
      | exact ⟨(HBv.out.cell (p := ⟨w.heap.size, 0, none⟩) hwl).trans y0, (HBv.out.cell (p := ⟨w.heap.size, 1, none⟩) hwl).trans y1⟩
      | exact ⟨(HBb.out.cell (p := ⟨w.heap.size, 0, none⟩) hwl).trans y0, (HBb.out.cell (p := ⟨w.heap.size, 1, none⟩) hwl).trans y1⟩
      | exact ⟨(HBu.out.cell (p := ⟨w.heap.size, 0, none⟩) hwl).trans y0, (HBu.out.cell (p := ⟨w.heap.size, 1, none⟩) hwl).trans y1⟩
      | exact ⟨(HBa.out.cell (p := ⟨w.heap.size, 0, none⟩) hwl).trans y0, (HBa.out.cell (p := ⟨w.heap.size, 1, none⟩) hwl).trans y1⟩
      | exact ⟨(HX2.out.cell (p := ⟨w.heap.size, 0, none⟩) hwl).trans y0, (HX2.out.cell (p := ⟨w.heap.size, 1, none⟩) hwl).trans y1⟩
      | go_keep)
    ((first
      | (go_at_call 19; first
        | (refine (CB.out wA (HBw.out.trans (HBa.out.mono HBw.out.size))).mono ?_; rintro e wB ⟨gb, cb, curB, rfl, hRB⟩; have gi := hbi.out
           have HBb : Hid (Below w1.heap.size w1 wB) := HBa.out.trans (hRB.below.mono HBa.out.size); have gi2 : wB.heap[w1.heap.size]? = some (.cells #[.slice none 0 0, .slice none 0 0] 24 (0, 0)) := by rw [hRB.below.block _ (Array.getElem?_eq_some_iff.1 gi).1]; exact gi
           obtain ⟨Wa, Wz, hWa, hWz, p1, p2, p3, p4, p5, p6, p7, p8, p9, p10⟩ := set_two gi2 (.slice (some ⟨ga, 0, none⟩) bs.length ca) (.slice (some ⟨gb, 0, none⟩) ss.length cb)
           have HT : Hid (Told w1 Wz w1.heap.size ga ca gb cb bs ss) := told_of HX2.out HRA.out (Below.refl _ _) hRB (Below.refl _ _) (Nat.le_refl _) (by have := HRA.out.new; simp at this; omega) (by have := hRB.new; have := (Array.getElem?_eq_some_iff.1 gi).1; omega) p7 p8 p10
           have HBz : Hid (Below w1.heap.size w1 Wz) := HT.out.below; clear p7 p8 p9 p10 gi gi2 hRB)
        | (refine (CB.out (wA.alloc (.cells #[.slice none 0 0, .slice none 0 0] 24)) (HBw.out.trans (HBu.out.mono HBw.out.size))).mono ?_; rintro e wB ⟨gb, cb, curB, rfl, hRB⟩
           have HBb : Hid (Below w1.heap.size w1 wB) := HBu.out.trans (hRB.below.mono HBu.out.size); have gi2 : wB.heap[wA.heap.size]? = some (.cells #[.slice none 0 0, .slice none 0 0] 24 (0, 0)) := by (rw [hRB.below.block _ (by simp)]; exact heap_alloc_new _ _)
           obtain ⟨Wa, Wz, hWa, hWz, p1, p2, p3, p4, p5, p6, p7, p8, p9, p10⟩ := set_two gi2 (.slice (some ⟨ga, 0, none⟩) bs.length ca) (.slice (some ⟨gb, 0, none⟩) ss.length cb)
           have HT : Hid (Told w1 Wz wA.heap.size ga ca gb cb bs ss) := told_of HX1.out HRA.out (one_below _ _) hRB (Below.refl _ _) (HBa.out.size) (by have := HRA.out.lt; omega) (by have := hRB.new; simp at this; omega) p7 p8 p10
           have HBz : Hid (Below w1.heap.size w1 Wz) := HT.out.below; clear p7 p8 p9 p10 gi2 hRB)
        | (refine (CB.out wA (HBw.out.trans (HBa.out.mono HBw.out.size))).mono ?_; rintro e wB ⟨gb, cb, curB, rfl, hRB⟩
           have HBb : Hid (Below w1.heap.size w1 wB) := HBa.out.trans (hRB.below.mono HBa.out.size)
           have HBv : Hid (Below w1.heap.size w1 (wB.alloc (.cells #[.slice none 0 0, .slice none 0 0] 24))) := HBb.out.alloc HBb.out.size _
           obtain ⟨Wa, Wz, hWa, hWz, p1, p2, p3, p4, p5, p6, p7, p8, p9, p10⟩ := set_two (W := wB.alloc (.cells #[.slice none 0 0, .slice none 0 0] 24)) (heap_alloc_new wB _) (.slice (some ⟨ga, 0, none⟩) bs.length ca) (.slice (some ⟨gb, 0, none⟩) ss.length cb)
           have HT : Hid (Told w1 Wz wB.heap.size ga ca gb cb bs ss) := told_of HX1.out HRA.out (Below.refl _ _) hRB (one_below _ _) (HBb.out.size) (by have := HRA.out.lt; have := hRB.below.size; omega) (by have := hRB.lt; omega) p7 p8 p10
           have HBz : Hid (Below w1.heap.size w1 Wz) := HT.out.below; clear p7 p8 p9 p10 hRB)
        | (refine (CA.out (w1.alloc (.cells #[.slice none 0 0, .slice none 0 0] 24)).drew (HBw.out.trans (HX2.out.mono HBw.out.size))).mono ?_; rintro e wA ⟨ga, ca, curA, rfl, hRA⟩
           have HBa : Hid (Below w1.heap.size w1 wA) := HX2.out.trans (hRA.below.mono HX2.out.size); have hbi : Hid (wA.heap[w1.heap.size]? = some (.cells #[.slice none 0 0, .slice none 0 0] 24 (0, 0))) := by (show _ = _; rw [hRA.below.block _ (by simp)]; exact heap_alloc_new _ _)
           have HRA : Hid _ := hRA; clear hRA)
        | (refine (CA.out w1.drew (HBw.out.trans (HX1.out.mono HBw.out.size))).mono ?_; rintro e wA ⟨ga, ca, curA, rfl, hRA⟩
           have HBa : Hid (Below w1.heap.size w1 wA) := HX1.out.trans (hRA.below.mono HX1.out.size); have HRA : Hid _ := hRA; have HBu : Hid (Below w1.heap.size w1 (wA.alloc (.cells #[.slice none 0 0, .slice none 0 0] 24))) := HBa.out.alloc HBa.out.size _; clear hRA))))
  all_goals (
    have z0 : Wz.cell? ⟨w.heap.size, 0, none⟩ = some (.slice p bs.length c) := (HBz.out.cell (p := ⟨w.heap.size, 0, none⟩) hwl).trans y0
    have z1 : Wz.cell? ⟨w.heap.size, 1, none⟩ = some (.slice q ss.length d) := (HBz.out.cell (p := ⟨w.heap.size, 1, none⟩) hwl).trans y1
    have K2 := CR.out Wz (HBw.out.trans (HBz.out.mono HBw.out.size))
    clear hWa hWz p1 p2 p3 p4 p5 p6 n0 n1 CA CB CR HBb HRA
    go_wp2_with fail
    refine K2.mono ?_
    rintro e w2 ⟨rfl, hb2⟩
    have HT2 : Hid (Told w1 w2 _ ga ca gb cb bs ss) := HT.out.later hb2
    have t0 := cell_of_row (k := 0) (v := .slice (some ⟨ga, 0, none⟩) bs.length ca) HT2.out.box rfl
    have t1 := cell_of_row (k := 1) (v := .slice (some ⟨gb, 0, none⟩) ss.length cb) HT2.out.box rfl
    obtain ⟨Va, Vz, hVa, hVz, r1, r2, r3, r4, r5, r6, r7, r8, r9, r10⟩ := set_two (HG.out w2 (HB1.out.trans (HT2.out.below.mono HB1.out.size))).2 (.slice (some ⟨ga, 0, none⟩) bs.length ca) (.slice (some ⟨gb, 0, none⟩) ss.length cb)
    have HF : Hid (NumsL Vz (.slice (some ⟨ga, 0, none⟩) bs.length ca) bs ∧ NumsL Vz (.slice (some ⟨gb, 0, none⟩) ss.length cb) ss ∧ Below w.heap.size w Vz) := by
      obtain ⟨f1, f2⟩ := HT2.out.nums (r := w.heap.size + 1) (W' := Vz) (by have := (Array.getElem?_eq_some_iff.1 (HG.out w1 HB1.out).2).1; omega) r8 HU.out
      exact ⟨f1, f2, r10 _ _ (HBw.out.trans (HT2.out.below.mono HBw.out.size)) (by omega)⟩
    clear K2 hb2 r7 r8 r9 r10
    go_wp2_with fail
    exact bodyPost_ret (v := .tuple #[.agg #[.slice (some ⟨ga, 0, none⟩) bs.length ca, .slice (some ⟨gb, 0, none⟩) ss.length cb], .bool false, .int .i64 E]) (by simp [results, Try.results10, go_sem, r5, r6]) rfl ⟨_, ca, _, cb, rfl, HF.out⟩)
end Go.Proofs.Ytdcgppdljcokpaa
