/- What the reference's Sort answers: the pieces. -/
import Derived.Test.YtaekbmpiohmciaaDoorXj
import Derived.Test.YtaekbmpiohmciaaDoorXg
import Derived.Deep.RegionHeld3
import Derived.Laws.Slices
namespace Go.Proofs.YtaekbmpiohmciaaDoor
open Go.Shelf Go.RowKit Go.Lib Go.Sort
set_option linter.unusedVariables false
set_option linter.unusedSimpArgs false
attribute [local go_sem ↓] Go.wp_at_zero Go.wp_at_succ
/-- A list of rows that begins where its block does. -/
def OutL (W : World) (v : Value) (ks : List (List Val)) : Prop := ((v = .slice none 0 0 ∧ ks = []) ∨ ∃ g cap, v = .slice (some ⟨g, 0, none⟩) ks.length cap ∧ ks.length ≤ cap) ∧ RowsL W v ks
theorem OutL.below {w W : World} {v : Value} {ks : List (List Val)} (h : OutL w v ks) (hb : Below w.heap.size w W) : OutL W v ks := ⟨h.1, h.2.below hb⟩
theorem OutL.start (W : World) : OutL W (.slice none 0 0) [] := ⟨.inl ⟨rfl, rfl⟩, none, 0, rfl, by simp, by simp⟩
theorem elem34 : Tryd.prog.underlying 34 = some (.slice (Tryd.prog.elem 34)) := by kernel_rfl
theorem size34 (W : World) : (sizeOf (Tryd.prog.elem 34)).run Tryd.prog W = .ok 1 W := by
  have : Tryd.prog.elem 34 = 38 := by kernel_rfl
  rw [this]
  exact Tryd.sizeOf38 W
theorem slice_front {W : World} {v : Value} {ks : List (List Val)} (h : OutL W v ks) (n : Nat) (hn : n ≤ ks.length) :
    ∃ p m c, (∀ W', (Instr.slice 34 v none (some (.int .i64 (n : Int))) none).run Tryd.prog W' = .ok (.slice p m c) W') ∧ RowsL W (.slice p m c) (ks.take n) := by
  obtain ⟨⟨rfl, rfl⟩ | ⟨g, cap, rfl, hc⟩, hr⟩ := h
  · obtain rfl : n = 0 := by simpa using hn
    refine ⟨none, 0, 0, fun W' => ?_, none, 0, rfl, by simp, by simp⟩
    rw [run_slice_h (P := Tryd.prog) W' 34 none 0 0 elem34 .i64 _ (by omega) (by omega), size34]
    simp [sliced]
  · refine ⟨some ⟨g, 0, none⟩, n, cap, fun W' => ?_, ?_⟩
    · rw [run_slice_h (P := Tryd.prog) W' 34 _ _ _ elem34 .i64 _ (by omega) (by omega), size34]
      have ha : (⟨g, 0, none⟩ : Addr).add 0 = ⟨g, 0, none⟩ := by unfold Addr.add; split <;> simp_all
      simp [sliced, ha]
    · obtain ⟨p, c, e, hl, hx⟩ := hr
      simp only [Value.slice.injEq, true_and] at e
      obtain ⟨rfl, rfl⟩ := e
      refine ⟨some ⟨g, 0, none⟩, cap, by simp [Nat.min_eq_left hn], by simp; omega, fun h0 => ?_⟩
      obtain ⟨b, o, e, hlt, hcell⟩ := hx (by simp at h0; omega)
      refine ⟨b, o, e, hlt, fun j hj => ?_⟩
      have hj' : j < ks.length := by simp at hj; omega
      obtain ⟨u, u1, u2⟩ := hcell j hj'
      exact ⟨u, u1, by rw [List.getElem_take]; exact u2⟩
theorem slice_back {W : World} {v : Value} {ks : List (List Val)} (h : OutL W v ks) (n : Nat) (hn : n ≤ ks.length) :
    ∃ p m c, (∀ W', (Instr.slice 34 v (some (.int .i64 (n : Int))) none none).run Tryd.prog W' = .ok (.slice p m c) W') ∧ RowsL W (.slice p m c) (ks.drop n) := by
  obtain ⟨⟨rfl, rfl⟩ | ⟨g, cap, rfl, hc⟩, hr⟩ := h
  · obtain rfl : n = 0 := by simpa using hn
    refine ⟨none, 0, 0, fun W' => ?_, none, 0, rfl, by simp, by simp⟩
    rw [run_slice_l (P := Tryd.prog) W' 34 none 0 0 elem34 .i64 _ (by omega) (by omega), size34]
    simp [sliced]
  · refine ⟨if cap = n then some ⟨g, 0, none⟩ else some ⟨g, n, none⟩, ks.length - n, cap - n, fun W' => ?_, ?_⟩
    · rw [run_slice_l (P := Tryd.prog) W' 34 _ _ _ elem34 .i64 _ (by omega) (by omega), size34]
      have ha : (⟨g, 0, none⟩ : Addr).add n = ⟨g, n, none⟩ := by unfold Addr.add; split <;> simp_all
      simp [sliced, ha]
    · obtain ⟨p, c, e, hl, hx⟩ := hr
      simp only [Value.slice.injEq, true_and] at e
      obtain ⟨rfl, rfl⟩ := e
      refine ⟨_, _, by rw [List.length_drop], by simp; omega, fun h0 => ?_⟩
      simp at h0
      obtain ⟨b, o, e, hlt, hcell⟩ := hx (by omega)
      simp only [Option.some.injEq, Addr.mk.injEq, and_true] at e
      obtain ⟨rfl, rfl⟩ := e
      refine ⟨g, n, by rw [if_neg (by omega)], hlt, fun j hj => ?_⟩
      have hj' : n + j < ks.length := by simp at hj; omega
      obtain ⟨u, u1, u2⟩ := hcell (n + j) hj'
      exact ⟨u, by rw [← u1]; simp, by rw [List.getElem_drop]; exact u2⟩
/-- Rows that are being put together, in memory that was made behind w1. -/
def Part (w1 W : World) (v : Value) (ks : List (List Val)) : Prop := ∃ us, W.ownsRow w1.heap.size 38 1 v ks.length us ∧ ∀ j (h : j < ks.length), ∃ u, us[j]? = some u ∧ RowV w1 u ks[j]
theorem Part.later {w1 W W' : World} {v : Value} {ks : List (List Val)} (h : Part w1 W v ks) (hb : Below W.heap.size W W') : Part w1 W' v ks := by
  obtain ⟨us, ⟨hl, hn | ⟨g, cap, cur, rfl, h1, hg, rest⟩⟩, hr⟩ := h
  · exact ⟨us, ⟨hl, .inl hn⟩, hr⟩
  · exact ⟨us, ⟨hl, .inr ⟨g, cap, cur, rfl, h1, by rw [hb.block g (Array.getElem?_eq_some_iff.1 hg).1]; exact hg, rest⟩⟩, hr⟩
theorem Part.out {w1 W : World} {v : Value} {ks : List (List Val)} (h : Part w1 W v ks) (hb : Below w1.heap.size w1 W) (hn : ks.length ≤ 9223372036854775807) : OutL W v ks := by
  obtain ⟨us, ho, hr⟩ := h
  refine ⟨?_, own_rows ho rfl hn fun j hj => ?_⟩
  · obtain ⟨_, ⟨rfl, h0⟩ | ⟨g, cap, cur, rfl, _, _, hc, _⟩⟩ := ho
    · exact .inl ⟨rfl, List.eq_nil_of_length_eq_zero h0⟩
    · exact .inr ⟨g, cap, rfl, hc⟩
  · obtain ⟨u, h1, h2⟩ := hr j hj
    exact ⟨u, h1, h2.below hb⟩
theorem step_append {ops : Array Oper} {o : Oper} {a : Act} {K : Act → World → Prop} {Q : Exit → Act → World → Prop} {E : Prop} (W : World) (hgd : o.guard = none) (s x : Operand)
    (ho : o.op = .call { callee := .builtin .append, args := #[s, x], argTypes := #[34, 34] }) (vs vx v' : Value) (W' : World) (hs : a.eval s = vs) (hx : a.eval x = vx)
    (hrun : (Builtin.append_ #[34, 34] o.type #[vs, vx]).run Tryd.prog W = .ok v' W') (h : K (a.put o.dst v') W') :
    if Region.wanted o (yielded ops a.tmps) = true then Oper.wp Tryd.prog o a W K Q else E := by
  have hw : Region.wanted o (yielded ops a.tmps) = true := by simp [Region.wanted, hgd]
  rw [if_pos hw]
  unfold Oper.wp execOp
  simp only [ho, resolve, invoke, builtin, Sem.run_bind, Sem.run_pure, Result.andThen_ok, List.map_toArray, List.map_cons, List.map_nil, hs, hx, hrun]
  exact h
/-- The first append: onto a list without rows. -/
theorem step_A {ops : Array Oper} {o : Oper} {a : Act} {K : Act → World → Prop} {Q : Exit → Act → World → Prop} {E : Prop} (W w1 : World) (hgd : o.guard = none) (s x : Operand)
    (ho : o.op = .call { callee := .builtin .append, args := #[s, x], argTypes := #[34, 34] }) (g : Nat) (vx : Value) (ks : List (List Val)) (hs : a.eval s = .slice (some ⟨g, 0, none⟩) 0 0) (hx : a.eval x = vx)
    (hg : W.heap[g]? = some (.cells #[] 38)) (hg1 : w1.heap.size ≤ g) (hB : Below w1.heap.size w1 W) (hl : RowsL w1 vx ks) (hby : ks.length * 24 ≤ 140737488355328)
    (h : ∀ v' W', Part w1 W' v' ks → (∀ k, k < W.heap.size → k ≠ g → W'.heap[k]? = W.heap[k]?) → W.heap.size ≤ W'.heap.size → Below w1.heap.size w1 W' → K (a.put o.dst v') W') :
    if Region.wanted o (yielded ops a.tmps) = true then Oper.wp Tryd.prog o a W K Q else E := by
  have hown : W.ownsRow w1.heap.size 38 1 (.slice (some ⟨g, 0, none⟩) 0 0) 0 [] := ⟨rfl, .inr ⟨g, 0, #[], rfl, hg1, hg, Nat.le_refl _, Nat.zero_le _, rfl, rfl⟩⟩
  obtain ⟨v', W', us, e, ho2, hl2, hr2, hg2⟩ := rows_onto w1.heap.size w1 W o.type _ vx 0 [] ks hown hl hB hB.size (by omega)
  rw [Nat.zero_add, List.nil_append] at ho2
  exact step_append W hgd s x ho _ vx v' W' hs hx e (h v' W' ⟨us, ho2, hr2⟩ (fun k hk hne => hg2.block k hk (by simp [Value.ownBlock]; omega)) hg2.size (grown_below hB hg2 (fun k e => by simp [Value.ownBlock] at e; omega)))
/-- The second one: one row more. -/
theorem step_B {ops : Array Oper} {o : Oper} {a : Act} {K : Act → World → Prop} {Q : Exit → Act → World → Prop} {E : Prop} (W w1 : World) (hgd : o.guard = none) (s x : Operand)
    (ho : o.op = .call { callee := .builtin .append, args := #[s, x], argTypes := #[34, 34] }) (v : Value) (ks : List (List Val)) (gS c : Nat) (u : Value) (r : List Val) (hs : a.eval s = v) (hp : Part w1 W v ks) (hx : a.eval x = .slice (some ⟨gS, 0, none⟩) 1 c)
    (hS : W.heap[gS]? = some (.cells #[u] 38)) (hr : RowV w1 u r) (hB : Below w1.heap.size w1 W) (hby : (ks.length + 1) * 24 ≤ 140737488355328)
    (h : ∀ v' W', Part w1 W' v' (ks ++ [r]) → Below w1.heap.size w1 W' → K (a.put o.dst v') W') :
    if Region.wanted o (yielded ops a.tmps) = true then Oper.wp Tryd.prog o a W K Q else E := by
  obtain ⟨i0, hi, hz0, hz1, hz2⟩ := info38
  obtain ⟨us, hown, hus⟩ := hp
  have hul : us.length = ks.length := by simpa using hown.1
  obtain ⟨v', W', e, h2, h3, _, h5⟩ := run_append_own_at (P := Tryd.prog) W w1.heap.size 34 o.type 38 i0 _ 1 24 Tryd.underlying34 hi hz0 hz1 hz2 rfl (by omega) v ks.length us hown ⟨gS, 0, none⟩ 1 c [u] rfl
    (World.news_of_block hS) (by simpa using rowV_one hr) (by unfold maxLen; omega) (by omega) hB.size
  refine step_append W hgd s x ho v _ v' W' hs hx e (h v' W' ⟨us ++ [u], by simpa using h2, fun j hj => ?_⟩ (grown_below hB h3 (fun k hk => (hown.lt k hk).1)))
  by_cases hj' : j < ks.length
  · obtain ⟨u', h1, h2⟩ := hus j hj'
    exact ⟨u', by rw [List.getElem?_append_left (by omega)]; exact h1, by rw [List.getElem_append_left hj']; exact h2⟩
  · have : j = ks.length := by simp at hj; omega
    subst this
    exact ⟨u, by rw [List.getElem?_append_right (by omega), hul, Nat.sub_self]; rfl, by rw [List.getElem_append_right (by omega)]; simpa using hr⟩
/-- The third one: the rows behind. -/
theorem step_C {ops : Array Oper} {o : Oper} {a : Act} {K : Act → World → Prop} {Q : Exit → Act → World → Prop} {E : Prop} (W w1 : World) (hgd : o.guard = none) (s x : Operand)
    (ho : o.op = .call { callee := .builtin .append, args := #[s, x], argTypes := #[34, 34] }) (v : Value) (ks ls : List (List Val)) (vx : Value) (hs : a.eval s = v) (hp : Part w1 W v ks) (hx : a.eval x = vx)
    (hl : RowsL w1 vx ls) (hB : Below w1.heap.size w1 W) (hby : (ks.length + ls.length) * 24 ≤ 140737488355328)
    (h : ∀ v' W', Part w1 W' v' (ks ++ ls) → Below w1.heap.size w1 W' → K (a.put o.dst v') W') :
    if Region.wanted o (yielded ops a.tmps) = true then Oper.wp Tryd.prog o a W K Q else E := by
  obtain ⟨us, hown, hus⟩ := hp
  have hul : us.length = ks.length := by simpa using hown.1
  obtain ⟨v', W', hs', e, ho2, hl2, hr2, hg2⟩ := rows_onto w1.heap.size w1 W o.type v vx ks.length us ls hown hl hB hB.size hby
  refine step_append W hgd s x ho v vx v' W' hs hx e (h v' W' ⟨us ++ hs', by simpa using ho2, fun j hj => ?_⟩ (grown_below hB hg2 (fun k hk => (hown.lt k hk).1)))
  by_cases hj' : j < ks.length
  · obtain ⟨u', h1, h2⟩ := hus j hj'
    exact ⟨u', by rw [List.getElem?_append_left (by omega)]; exact h1, by rw [List.getElem_append_left hj']; exact h2⟩
  · obtain ⟨u', h1, h2⟩ := hr2 (j - ks.length) (by simp at hj; omega)
    exact ⟨u', by rw [List.getElem?_append_right (by omega), hul]; exact h1, by rw [List.getElem_append_right (by omega)]; exact h2⟩
end Go.Proofs.YtaekbmpiohmciaaDoor
