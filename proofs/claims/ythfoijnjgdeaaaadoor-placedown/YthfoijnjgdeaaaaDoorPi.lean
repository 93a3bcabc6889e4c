/- The law PlaceOnce: its pieces. -/
import Derived.Test.YthfoijnjgdeaaaaDoorPh
namespace Go.Proofs.YthfoijnjgdeaaaaDoor
open Go.Shelf Go.RowKit Go.Lib Go.Sort
set_option linter.unusedVariables false
set_option linter.unusedSimpArgs false
attribute [local go_sem ↓] Go.wp_at_zero Go.wp_at_succ
set_option maxRecDepth 100000 in
set_option maxHeartbeats 4000000 in
theorem shard_any (N S R : Int) (v : Value) (x : Val) (xs : List Val) (w : World) (h0 : layE N S R = 0) (hv : RowV w v (x :: xs)) (k0 : 0 ≤ x.k) (k1 : x.k ≤ 255) (hs : x.s.size ≤ 9223372036854775807) :
    Calls Tryd.prog 11 #[.agg #[.int .i64 N, .int .i64 S, .int .i64 R], v] w fun e w' => e = .returned (.tuple #[.int .i64 (shd S (x :: xs)), .int .i64 0]) ∧ Below w.heap.size w w' := by
  obtain ⟨a1, a2, a3, a4, a5, a6⟩ := layE_zero.1 h0
  have C1 : Hid (∀ W, Calls Tryd.prog 18 #[.agg #[.int .i64 N, .int .i64 S, .int .i64 R]] W fun e w' => e = .returned (.int .i64 0) ∧ Below W.heap.size W w') := fun W => by rw [← h0]; exact layCheck_any N S R W
  have C2 : Hid (∀ W, Below w.heap.size w W → Calls Tryd.prog 28 #[.agg #[.int .i64 N, .int .i64 S, .int .i64 R], v] W fun e w' => e = .returned (.int .i64 (shd S (x :: xs))) ∧ Below W.heap.size W w') := fun W h => shardOf_any N S R v x xs W (hv.below h) ⟨a3, a4⟩ k0 k1 hs (hashV_range x)
  obtain ⟨p, c, rfl, _, _⟩ := hv.form
  have hz : (((x :: xs).length : Int) == 0) = false := beq_eq_false_iff_ne.2 (by simp; omega)
  clear hv h0
  go_enter Tryd.func11, Tryd.ntmps11
  go_wp2_with fail
  refine (C1.out _).mono ?_
  rintro e w1 ⟨rfl, hb1⟩
  have y0 : w1.cell? ⟨w.heap.size, 0, none⟩ = some (.int .i64 N) := by rw [hb1.cell (by simp)]; exact cell_box w _ _ _ _ rfl
  have y1 : w1.cell? ⟨w.heap.size, 1, none⟩ = some (.int .i64 S) := by rw [hb1.cell (by simp)]; exact cell_box w _ _ _ _ rfl
  have y2 : w1.cell? ⟨w.heap.size, 2, none⟩ = some (.int .i64 R) := by rw [hb1.cell (by simp)]; exact cell_box w _ _ _ _ rfl
  have HB : Hid (Below w.heap.size w w1) := (box3_below w _ _ _).trans (hb1.mono (by simp))
  clear hb1
  go_wp2_with fail
  refine (C2.out _ HB.out).mono ?_
  rintro e w2 ⟨rfl, hb2⟩
  have HB2 : Hid (Below w.heap.size w w2) := HB.out.trans (hb2.mono HB.out.size)
  clear hb2
  go_wp2_with fail
  go_ret2
  exact ⟨rfl, HB2.out⟩
/-- Rows that are being put together, in memory that was made behind w1. -/
def PartA (w1 W : World) (v : Value) (ks : List (List Val)) : Prop := ∃ us, W.ownsRow w1.heap.size 25 1 v ks.length us ∧ ∀ j (h : j < ks.length), ∃ u, us[j]? = some u ∧ RowV w1 u ks[j]
theorem PartA.start (w : World) : PartA w w (.slice none 0 0) [] := ⟨[], World.ownsRow_nil _ _ _ _, fun j h => by simp at h⟩
theorem PartA.below {w1 W W' : World} {v : Value} {ks : List (List Val)} (h : PartA w1 W v ks) (hb : Below W.heap.size W W') : PartA w1 W' v ks := by
  obtain ⟨us, ho, hu⟩ := h
  exact ⟨us, ho.kept (grown_of_below hb) (by cases v.ownBlock <;> simp), hu⟩
theorem PartA.more {w1 W : World} {v vl : Value} {ks ls : List (List Val)} (h : PartA w1 W v ks) (hl : RowsL w1 vl ls) (hB : Below w1.heap.size w1 W) (hby : (ks.length + ls.length) * 24 ≤ 140737488355328) :
    ∃ p n c W', (Builtin.append_ #[27, 27] 27 #[v, vl]).run Tryd.prog W = .ok (.slice p n c) W' ∧ PartA w1 W' (.slice p n c) (ks ++ ls) ∧ Below w1.heap.size w1 W' := by
  obtain ⟨us, hown, hus⟩ := h
  have hul : us.length = ks.length := by simpa using hown.1
  obtain ⟨v', W', hs', e, ho2, hl2, hr2, hg2⟩ := rows_onto w1.heap.size w1 W 27 v vl ks.length us ls hown hl hB hB.size hby
  obtain ⟨p, n, c, rfl⟩ : ∃ p n c, v' = .slice p n c := by
    obtain ⟨_, ⟨rfl, _⟩ | ⟨g, cap, cu, rfl, _⟩⟩ := ho2 <;> exact ⟨_, _, _, rfl⟩
  refine ⟨p, n, c, W', e, ⟨us ++ hs', by simpa using ho2, fun j hj => ?_⟩, grown_below hB hg2 (fun k hk => (hown.lt k hk).1)⟩
  by_cases hj' : j < ks.length
  · obtain ⟨u', h1, h2⟩ := hus j hj'
    exact ⟨u', by rw [List.getElem?_append_left (by omega)]; exact h1, by rw [List.getElem_append_left hj']; exact h2⟩
  · obtain ⟨u', h1, h2⟩ := hr2 (j - ks.length) (by simp at hj; omega)
    exact ⟨u', by rw [List.getElem?_append_right (by omega), hul]; exact h1, by rw [List.getElem_append_right (by omega)]; exact h2⟩
theorem PartA.rows {w1 W : World} {v : Value} {ks : List (List Val)} (h : PartA w1 W v ks) (hb : Below w1.heap.size w1 W) (hn : ks.length ≤ 9223372036854775807) : RowsL W v ks := by
  obtain ⟨us, ho, hr⟩ := h
  exact own_rows ho rfl hn fun j hj => by
    obtain ⟨u, h1, h2⟩ := hr j hj
    exact ⟨u, h1, h2.below hb⟩
theorem SplJ.shard {w1 W : World} {S : Nat} {PT : Nat → List (List Val)} (h : SplJ w1 S PT W) {j : Nat} (hj : j < S) (hn : (PT j).length ≤ 9223372036854775807) : ∃ p c, W.cell? ⟨w1.heap.size, j, none⟩ = some (.slice p (PT j).length c) ∧ RowsL W (.slice p (PT j).length c) (PT j) := by
  obtain ⟨cur, U, hg, hc, hu, hB, hp, hd⟩ := h
  obtain ⟨hs, ho, hr⟩ := hp j hj
  have hl := own_rows ho rfl hn fun m hm => by
    obtain ⟨u, h1, h2⟩ := hr m hm
    exact ⟨u, h1, h2.row⟩
  have hcell : W.cell? ⟨w1.heap.size, j, none⟩ = some (U j) := by simp [World.cell?, hg, hu j hj]
  have hl2 := hl
  obtain ⟨p, c, e, _⟩ := hl
  rw [e] at hcell hl2
  exact ⟨p, c, hcell, hl2⟩
theorem rowsA_rows {w : World} {p : Option Addr} {rs : List (List Val)} (c : Nat) (h : RowsA w p rs) : RowsL w (.slice p rs.length c) rs := by
  refine ⟨p, c, rfl, h.1, fun h0 => ?_⟩
  obtain ⟨b, o, rfl, hlt, hc⟩ := h.2 h0
  refine ⟨b, o, rfl, hlt, fun j hj => ?_⟩
  obtain ⟨q, m, d, h1, h2⟩ := hc j hj
  exact ⟨_, h1, rowA_row h2⟩
theorem perm_at (r : List Val) (f : Nat → List (List Val)) (s : Nat) : ∀ n, s < n → ((List.range n).flatMap fun j => if j = s then r :: f j else f j).Perm (r :: (List.range n).flatMap f)
  | 0, h => by omega
  | n + 1, h => by
    rw [List.range_succ, List.flatMap_append, List.flatMap_append]
    by_cases e : s = n
    · subst e
      have e1 : ((List.range s).flatMap fun j => if j = s then r :: f j else f j) = (List.range s).flatMap f := Go.Deep.flatMap_congr_range fun j hj => by rw [if_neg (by omega)]
      rw [e1]
      simp only [List.flatMap_cons, List.flatMap_nil, List.append_nil, if_true]
      exact List.perm_middle
    · have ih := perm_at r f s n (by omega)
      simp only [List.flatMap_cons, List.flatMap_nil, List.append_nil]
      rw [if_neg (Ne.symm e)]
      exact (ih.append_right _).trans (List.Perm.refl _)
theorem perm_parts (S : Nat) : ∀ rs : List (List Val), (∀ r ∈ rs, ∃ s : Nat, shd S r = (s : Int) ∧ s < S) → ((List.range S).flatMap (partOf S rs)).Perm rs
  | [], _ => by
    have : ((List.range S).flatMap (partOf S [])) = [] := by simp [partOf]
    rw [this]
  | r :: rs, h => by
    obtain ⟨s, h1, h2⟩ := h r (by simp)
    have e : partOf S (r :: rs) = fun j => if j = s then r :: partOf S rs j else partOf S rs j := by
      funext j
      unfold partOf
      by_cases e : j = s
      · subst e; simp [h1]
      · rw [if_neg e, List.filter_cons_of_neg (by rw [h1]; simp; omega)]
    rw [e]
    exact (perm_at r _ s S h2).trans ((perm_parts S rs fun q hq => h q (by simp [hq])).cons r)
end Go.Proofs.YthfoijnjgdeaaaaDoor
