/- Packets in new memory: what strings.Clone, newPacket, slices.Grow, slices.Concat and netOf answer. -/
import Derived.Test.YtnfgfbmkeiimlaaNd
import Derived.Test.YtnfgfbmkeiimlaaShelf
import Derived.Laws.AppendOwnNone
import Derived.Lib.AppendZerosOnto
namespace Go.Proofs.Ytnfgfbmkeiimlaa
open Go.Shelf Go.RowKit Go.Lib Go.Sort
set_option linter.unusedVariables false
set_option linter.unusedSimpArgs false
attribute [local go_sem ↓] Go.wp_at_zero Go.wp_at_succ
theorem setCell_self {W : World} {g k : Nat} {cur : Array Value} {t : TypeId} {v : Value} (hg : W.heap[g]? = some (.cells cur t (0, 0))) (h : cur[k]? = some v) : W.setCell ⟨g, k, none⟩ v = W := by
  rw [setCell_eq_setRow W g k cur t (0, 0) v hg]
  have : cur.setIfInBounds k v = cur := by
    apply Array.ext_getElem?
    intro j
    by_cases e : k = j
    · subst e
      have hk : k < cur.size := (Array.getElem?_eq_some_iff.1 h).1
      rw [Array.getElem?_setIfInBounds_self_of_lt hk, h]
    · rw [Array.getElem?_setIfInBounds_ne e]
  rw [this]
  exact setRow_self W g cur t (0, 0) hg
theorem sclone_any (s : ByteArray) (w : World) (hlim : s.size ≤ 281474976710656) : Calls Try.prog 36 #[.string s] w fun e w' => e = .returned (.string s) ∧ Below w.heap.size w w' := Any.stringslite_Clone Try.laysM316 s w hlim
theorem clone_any (s : ByteArray) (w : World) (hlim : s.size ≤ 140737488355328) : Calls Try.prog 33 #[.string s] w fun e w' => e = .returned (.string s) ∧ Below w.heap.size w w' := by
  have C : Hid (Calls Try.prog 36 #[.string s] w fun e w' => e = .returned (.string s) ∧ Below w.heap.size w w') := sclone_any s w (by omega)
  go_enter Try.func33, Try.ntmps33
  go_wp2_with fail
  refine C.out.mono ?_
  rintro e w1 ⟨rfl, hb⟩
  go_wp2_with fail
  go_ret
  exact ⟨rfl, hb⟩
set_option maxRecDepth 100000 in
set_option maxHeartbeats 2000000 in
theorem newPacket_any (f t : Int) (x : ByteArray) (w : World) (hs : x.size ≤ 140737488355328) :
    Calls Try.prog 26 #[.agg #[.int .i64 f, .int .i64 t, .string x]] w fun e w' => e = .returned (.agg #[.int .i64 f, .int .i64 t, .string x]) ∧ Below w.heap.size w w' := by
  have C : Hid (∀ W, Calls Try.prog 33 #[.string x] W fun e w' => e = .returned (.string x) ∧ Below W.heap.size W w') := fun W => clone_any x W hs
  obtain ⟨W0, hW0⟩ : ∃ W0, (w.alloc (.cells #[.int .i64 f, .int .i64 t, .string x] 30)).alloc (.cells #[.int .i64 0, .int .i64 0, .string ⟨#[]⟩] 30) = W0 := ⟨_, rfl⟩
  have hb0 : Below w.heap.size w W0 := by rw [← hW0]; exact two_below _ _ _
  have hs0 : W0.heap.size = w.heap.size + 2 := by rw [← hW0]; simp
  have g0 : W0.heap[w.heap.size]? = some (.cells #[.int .i64 f, .int .i64 t, .string x] 30 (0, 0)) := by rw [← hW0, heap_alloc_old _ _ (by simp)]; exact heap_alloc_new w _
  have g1 : W0.heap[w.heap.size + 1]? = some (.cells #[.int .i64 0, .int .i64 0, .string ⟨#[]⟩] 30 (0, 0)) := by
    rw [← hW0]
    have := heap_alloc_new (w.alloc (.cells #[.int .i64 f, .int .i64 t, .string x] 30)) (.cells #[.int .i64 0, .int .i64 0, .string ⟨#[]⟩] 30)
    simpa using this
  have x2 := cell_of_row (k := 2) g0 rfl
  clear hs
  go_enter Try.func26, Try.ntmps26
  go_wp2_with fail
  refine (C.out _).mono ?_
  rintro e w1 ⟨rfl, hb1⟩
  have k0 : w1.heap[w.heap.size]? = some (.cells #[.int .i64 f, .int .i64 t, .string x] 30 (0, 0)) := by rw [hb1.block _ (by omega)]; exact g0
  have k1 : w1.heap[w.heap.size + 1]? = some (.cells #[.int .i64 0, .int .i64 0, .string ⟨#[]⟩] 30 (0, 0)) := by rw [hb1.block _ (by omega)]; exact g1
  have t1 : w1.setCell ⟨w.heap.size, 2, none⟩ (.string x) = w1 := setCell_self k0 rfl
  have t3 := frozen_zero k0 2
  have c0 := cell_of_row (k := 0) k0 rfl
  have c1 := cell_of_row (k := 1) k0 rfl
  have c2 := cell_of_row (k := 2) k0 rfl
  obtain ⟨Wa, Wb, Wc, hWa, hWb, hWc, ⟨oa, ca⟩, fa, ⟨ob, cb⟩, fb, ⟨oc, cc⟩, fc, hbl, _, _, cur', hg', _, _, r0, r1, r2⟩ := set_three (k := 0) k1 (by simp) (.int .i64 f) (.int .i64 t) (.string x)
  have d0 := cell_of_row hg' r0
  have d1 := cell_of_row hg' r1
  have d2 := cell_of_row hg' r2
  have HB : Hid (Below w.heap.size w Wc) := hbl _ _ (hb0.trans (hb1.mono hb0.size)) (by omega)
  simp only [Nat.zero_add] at hWa hWb hWc ca fa cb fb cc fc
  clear hb1 k0 k1 hbl hg' r0 r1 r2 g0 g1 hb0 x2
  go_wp2_with fail
  exact bodyPost_ret (v := .agg #[.int .i64 f, .int .i64 t, .string x]) (by simp [results, Try.results26, go_sem, d0, d1, d2]) rfl ⟨rfl, HB.out⟩
set_option maxHeartbeats 4000000 in
set_option maxRecDepth 100000 in
/-- Room for n packets. -/
theorem grow_any (n : Nat) (w : World) (hn : n * 32 ≤ 140737488355328) :
    Calls Try.prog 35 #[.slice none 0 0, .int .i64 n] w fun e w' => ∃ u, e = .returned u ∧ OwnP w.heap.size w' u [] ∧ Below w.heap.size w w' := by
  by_cases h0 : n = 0
  · subst h0
    go_enter Try.func35, Try.ntmps35
    go_wp2_with fail
    go_ret
    exact ⟨_, rfl, World.ownsRow_nil _ _ _ _, Below.refl _ _⟩
  · obtain ⟨i0, hi0, hz0, hz1, hz2⟩ := info30
    have hrz : ∀ ty, (Builtin.append_ #[22, 3] ty #[.slice none 0 0, .int .i64 n]).run Try.prog w = .ok (.slice (some ⟨w.heap.size, 0, none⟩) n (grownCap w n 0 30)) (w.drew.alloc (.cells (Builtin.zeroCells (Value.agg #[.int .i64 0, .int .i64 0, .string ⟨#[]⟩]).cells n ++ Builtin.zeroCells (Value.agg #[.int .i64 0, .int .i64 0, .string ⟨#[]⟩]).cells (grownCap w n 0 30 - n)) 30)) :=
      fun ty => run_append_nil_zeros w 22 3 ty 30 i0 _ .i64 .i64 Try.underlying22 Try.underlying3 hi0 hz0 n (by omega) (by omega) (by omega) (by rw [hz2]; omega)
    have hGn : n ≤ grownCap w n 0 30 := grownCap_ge w _ _ _
    have hGm : grownCap w n 0 30 ≤ maxLen := grownCap_le_maxLen w n 0 30 (by unfold maxLen; omega)
    obtain ⟨G, hG⟩ : ∃ G, G = grownCap w n 0 30 := ⟨_, rfl⟩
    rw [← hG] at hrz hGn hGm
    have hG63 : G ≤ 9223372036854775807 := by unfold maxLen at hGm; omega
    have HM : Hid (G ≤ maxLen) := hGm
    have h1 : ¬ ((n : Int) < 0) := by omega
    have h2 : (0 : Int) < (n : Int) := by omega
    clear hG hGm
    go_enter Try.func35, Try.ntmps35
    go_wp2_with (at_builtin; refine Lib.wpList_append_run _ rfl _ _ _ _ rfl _ _ rfl rfl _ _ (hrz _) ?_)
    all_goals (go_ret; refine ⟨_, rfl, ⟨rfl, .inr ⟨w.heap.size, G, _, rfl, Nat.le_refl _, heap_alloc_new w.drew _, Nat.zero_le _, HM.out, ?_, rfl⟩⟩, ?_⟩)
    all_goals (first
      | (exact (Below.refl _ _).drew.alloc (Nat.le_refl _) _)
      | (simp [Builtin.zeroCells, Value.cells]; omega))
end Go.Proofs.Ytnfgfbmkeiimlaa
