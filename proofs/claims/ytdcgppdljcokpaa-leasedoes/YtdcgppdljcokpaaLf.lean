/- Leases that are held against each other; a beat. -/
import Derived.Test.YtdcgppdljcokpaaLe
namespace Go.Proofs.Ytdcgppdljcokpaa
open Go.Shelf Go.RowKit Go.Lib Go.Sort
set_option linter.unusedVariables false
set_option linter.unusedSimpArgs false
attribute [local go_sem ↓] Go.wp_at_zero Go.wp_at_succ
set_option maxRecDepth 100000 in
set_option maxHeartbeats 4000000 in
theorem Same_any (u1 u2 v1 v2 : Value) (xs xt ys yt : List Int) (w : World) (h1 : NumsL w u1 xs) (h2 : NumsL w u2 xt) (h3 : NumsL w v1 ys) (h4 : NumsL w v2 yt) :
    Calls Try.prog 15 #[.agg #[u1, u2], .agg #[v1, v2]] w fun e w' => e = .returned (.bool (sameN xs ys && sameN xt yt)) ∧ Below w.heap.size w w' := by
  obtain ⟨W0, hW0⟩ : ∃ W0, (w.alloc (.cells #[u1, u2] 24)).alloc (.cells #[v1, v2] 24) = W0 := ⟨_, rfl⟩
  have hb0 : Below w.heap.size w W0 := by rw [← hW0]; exact two_below _ _ _
  have hs0 : W0.heap.size = w.heap.size + 2 := by rw [← hW0]; simp
  have g0 : W0.heap[w.heap.size]? = some (.cells #[u1, u2] 24 (0, 0)) := by rw [← hW0, heap_alloc_old _ _ (by simp)]; exact heap_alloc_new w _
  have g1 : W0.heap[w.heap.size + 1]? = some (.cells #[v1, v2] 24 (0, 0)) := by
    rw [← hW0]
    have := heap_alloc_new (w.alloc (.cells #[u1, u2] 24)) (.cells #[v1, v2] 24)
    simpa using this
  have HG : Hid (∀ W, Below W0.heap.size W0 W → W.cell? ⟨w.heap.size, 1, none⟩ = some u2 ∧ W.cell? ⟨w.heap.size + 1, 1, none⟩ = some v2) := fun W hb =>
    ⟨cell_of_row (k := 1) (by rw [hb.block _ (by omega)]; exact g0) rfl, cell_of_row (k := 1) (by rw [hb.block _ (by omega)]; exact g1) rfl⟩
  have x0 := cell_of_row (k := 0) g0 rfl
  have x1 := cell_of_row (k := 0) g1 rfl
  have C1 : Hid (Calls Try.prog 22 #[u1, v1] W0 fun e w' => e = .returned (.bool (sameN xs ys)) ∧ Below W0.heap.size W0 w') := numbers_any u1 v1 xs ys W0 (h1.below hb0) (h3.below hb0)
  have C2 : Hid (∀ W, Below w.heap.size w W → Calls Try.prog 22 #[u2, v2] W fun e w' => e = .returned (.bool (sameN xt yt)) ∧ Below W.heap.size W w') := fun W hb => numbers_any u2 v2 xt yt W (h2.below hb) (h4.below hb)
  have HB0 : Hid (Below w.heap.size w W0) := hb0
  obtain ⟨p1, c1, rfl, _⟩ := h1
  obtain ⟨p2, c2, rfl, _⟩ := h2
  obtain ⟨p3, c3, rfl, _⟩ := h3
  obtain ⟨p4, c4, rfl, _⟩ := h4
  clear hb0 hs0 g0 g1
  go_enter Try.func15, Try.ntmps15
  go_wp2_with fail
  refine C1.out.mono ?_
  rintro e w1 ⟨rfl, hb1⟩
  obtain ⟨y0, y1⟩ := HG.out w1 hb1
  have HB1 : Hid (Below w.heap.size w w1) := HB0.out.trans (hb1.mono HB0.out.size)
  have K2 := C2.out w1 HB1.out
  clear hb1 C1 C2 x0 x1
  cases hq : sameN xs ys with
  | false =>
    have HQ : Hid (sameN xs ys = false) := hq
    clear hq
    go_wp2_with fail
    go_ret
    exact ⟨by rw [HQ.out]; rfl, HB1.out⟩
  | true =>
    have HQ : Hid (sameN xs ys = true) := hq
    clear hq
    go_wp2_with fail
    refine K2.mono ?_
    rintro e w2 ⟨rfl, hb2⟩
    have HB2 : Hid (Below w.heap.size w w2) := HB1.out.trans (hb2.mono HB1.out.size)
    clear hb2 K2
    go_wp2_with fail
    go_ret
    exact ⟨by rw [HQ.out]; rfl, HB2.out⟩
/-- What a beat answers. -/
def btB (bs ss : List Int) (node boot now : Int) : List Int := if chL bs ss = 0 then (if refE bs ss node boot now = 0 then bs.set node.toNat boot else bs) else []
def btS (bs ss : List Int) (node boot now : Int) : List Int := if chL bs ss = 0 then (if refE bs ss node boot now = 0 then ss.set node.toNat now else ss) else []
def btE (bs ss : List Int) (node boot now : Int) : Int := if chL bs ss = 0 then refE bs ss node boot now else 6
def btF (bs ss : List Int) (node boot now : Int) : Bool := if chL bs ss = 0 ∧ refE bs ss node boot now = 0 then !(bs.getD node.toNat 0 == boot) else false
def BeatP (bs ss : List Int) (f : Bool) (er : Int) (w : World) (e : Ending) (w' : World) : Prop :=
  ∃ p c q d, e = .returned (.tuple #[.agg #[.slice p bs.length c, .slice q ss.length d], .bool f, .int .i64 er]) ∧ NumsL w' (.slice p bs.length c) bs ∧ NumsL w' (.slice q ss.length d) ss ∧ Below w.heap.size w w'
/-- Numbers of which one is another. -/
theorem InU.set {zs : List Int} (h : InU zs) (k : Nat) (x : Int) (hx : 0 ≤ x ∧ x < 18446744073709551616) : InU (zs.set k x) := fun z hz => by
  rcases List.mem_or_eq_of_mem_set hz with h' | rfl
  · exact h z h'
  · exact hx
theorem own_cell {base : Nat} {W : World} {u : Value} {zs : List Int} (h : OwnN base W u zs) (h0 : 0 < zs.length) : ∃ g c cur, u = .slice (some ⟨g, 0, none⟩) zs.length c ∧ base ≤ g ∧ g < W.heap.size ∧ W.heap[g]? = some (.cells cur 25 (0, 0)) ∧ zs.length ≤ cur.size ∧ zs.length ≤ c ∧ c ≤ 9223372036854775807 ∧ ∀ j (h : j < zs.length), cur[j]? = some (.int .u64 zs[j]) := by
  obtain ⟨hl, ⟨rfl, hn⟩ | ⟨g, cap, cur, rfl, hb, hg, hnc, hcm, hcs, htake⟩⟩ := h
  · omega
  · have hc : ∀ j (h : j < zs.length), cur[j]? = some (.int .u64 zs[j]) := fun j hj => by
      have h1 : (cur.toList.take (zs.length * 1))[j]? = some (.int .u64 zs[j]) := by rw [htake]; simp [hj]
      rw [List.getElem?_take_of_lt (by omega)] at h1
      simpa using h1
    refine ⟨g, cap, cur, rfl, hb, (Array.getElem?_eq_some_iff.1 hg).1, hg, ?_, hnc, by unfold maxLen at hcm; omega, hc⟩
    have := (Array.getElem?_eq_some_iff.1 (hc (zs.length - 1) (by omega))).1
    omega
/-- A store into a list that is told by its row. -/
theorem row_set {W : World} {g c k : Nat} {cur : Array Value} {zs : List Int} (hg : W.heap[g]? = some (.cells cur 25 (0, 0))) (hc : zs.length ≤ c) (hc2 : c ≤ 9223372036854775807) (hm : zs.length * 8 ≤ 140737488355328) (hU : InU zs) (hz : ∀ j (h : j < zs.length), cur[j]? = some (.int .u64 zs[j])) (hk : k < zs.length) (x : Int) (hx : 0 ≤ x ∧ x < 18446744073709551616) :
    NumsL (W.setCell ⟨g, k, none⟩ (.int .u64 x)) (.slice (some ⟨g, 0, none⟩) (zs.set k x).length c) (zs.set k x) := by
  have hks : k < cur.size := (Array.getElem?_eq_some_iff.1 (hz k hk)).1
  have g2 := heap_setCell_same W g k cur 25 (.int .u64 x) hg
  refine ⟨_, c, rfl, by simpa using hc, hc2, by simpa using hm, hU.set k x hx, (fun h => by cases h), fun _ => ⟨g, 0, rfl, (Array.getElem?_eq_some_iff.1 g2).1, fun j hj => ?_⟩⟩
  rw [Nat.zero_add]
  refine cell_of_row g2 ?_
  have hj' : j < zs.length := by simpa using hj
  by_cases e : k = j
  · subst e; rw [Array.getElem?_setIfInBounds_self_of_lt hks]; simp
  · rw [Array.getElem?_setIfInBounds_ne e, hz j hj']; simp [List.getElem_set, e]
end Go.Proofs.Ytdcgppdljcokpaa
