/- A table's shards: what is known of them while they are made. -/
import Derived.Test.YthfoijnjgdeaaaaDoorPe
namespace Go.Proofs.YthfoijnjgdeaaaaDoor
open Go.Shelf Go.RowKit Go.Lib Go.Sort
set_option linter.unusedVariables false
set_option linter.unusedSimpArgs false
/-- A list of rows, all of it in memory that was made. -/
def PartR (base : Nat) (W : World) (v : Value) (ks : List (List Val)) : Prop := ∃ hs, W.ownsRow base 25 1 v ks.length hs ∧ ∀ m (h : m < ks.length), ∃ u, hs[m]? = some u ∧ OwnR base W u ks[m]
theorem PartR.kept {base : Nat} {W W' : World} {v : Value} {ks : List (List Val)} {row : Option Nat} (h : PartR base W v ks) (hg : W.grownBy W' row) (hne : v.ownBlock = none ∨ v.ownBlock ≠ row) (hr : ∀ u xs, OwnR base W u xs → u.ownBlock = none ∨ u.ownBlock ≠ row) : PartR base W' v ks := by
  obtain ⟨hs, ho, hu⟩ := h
  refine ⟨hs, ho.kept hg hne, fun m hm => ?_⟩
  obtain ⟨u, h1, h2⟩ := hu m hm
  exact ⟨u, h1, World.ownsRow.kept h2 hg (hr u _ h2)⟩
/-- Shards that are being made. -/
def SplJ (w1 : World) (S : Nat) (PT : Nat → List (List Val)) (wx : World) : Prop :=
  ∃ (cur : Array Value) (U : Nat → Value), wx.heap[w1.heap.size]? = some (.cells cur 27 (0, 0)) ∧ cur.size = S ∧ (∀ j, j < S → cur[j]? = some (U j)) ∧ Below w1.heap.size w1 wx ∧ (∀ j, j < S → PartR (w1.heap.size + 1) wx (U j) (PT j)) ∧
    ∀ i j, i < S → j < S → i ≠ j → (U i).ownBlock = none ∨ (U i).ownBlock ≠ (U j).ownBlock
theorem grown_of_below {W W' : World} (hb : Below W.heap.size W W') : W.grownBy W' none := ⟨hb.os, hb.tape, hb.output, hb.size, fun k hk _ => hb.block k hk⟩
theorem PartR.below {base : Nat} {W W' : World} {v : Value} {ks : List (List Val)} (h : PartR base W v ks) (hb : Below W.heap.size W W') : PartR base W' v ks :=
  h.kept (grown_of_below hb) (by cases v.ownBlock <;> simp) (fun u xs _ => by cases u.ownBlock <;> simp)
theorem SplJ.below {w1 W W' : World} {S : Nat} {PT : Nat → List (List Val)} (h : SplJ w1 S PT W) (hb : Below W.heap.size W W') : SplJ w1 S PT W' := by
  obtain ⟨cur, U, hg, hc, hu, hB, hp, hd⟩ := h
  exact ⟨cur, U, by rw [hb.block _ (Array.getElem?_eq_some_iff.1 hg).1]; exact hg, hc, hu, hB.trans (hb.mono hB.size), fun j hj => (hp j hj).below hb, hd⟩
/-- One row more. -/
theorem split_step {w1 wr w2 : World} {S s : Nat} {PT : Nat → List (List Val)} {q : Value} {r : List Val} (hJ : SplJ w1 S PT wr) (hs : s < S) (hb : Below wr.heap.size wr w2) (hq : OwnR wr.heap.size w2 q r) (hn : ((PT s).length + 1) * 24 ≤ 140737488355328) (ty : TypeId) :
    ∃ v0 v' W', wr.cell? ⟨w1.heap.size, s, none⟩ = some v0 ∧ (∃ p n c, v0 = .slice p n c) ∧ (∃ p n c, v' = .slice p n c) ∧ (Builtin.append_ #[27, 27] ty #[v0, .slice (some ⟨w2.heap.size, 0, none⟩) 1 1]).run Tryd.prog (w2.alloc (.cells #[q] 25)) = .ok v' W' ∧
      W'.cell? ⟨w1.heap.size, s, none⟩ = some v0 ∧ W'.frozen? ⟨w1.heap.size, s, none⟩ = false ∧ SplJ w1 S (fun j => if j = s then PT j ++ [r] else PT j) (W'.setCell ⟨w1.heap.size, s, none⟩ v') := by
  obtain ⟨i0, hi, hz0, hz1, hz2⟩ := info38
  have hlt0 : w1.heap.size < wr.heap.size := by obtain ⟨_, _, hg, _⟩ := hJ; exact (Array.getElem?_eq_some_iff.1 hg).1
  have hcell0 : ∀ cur : Array Value, ∀ v, wr.heap[w1.heap.size]? = some (.cells cur 27 (0, 0)) → cur[s]? = some v → wr.cell? ⟨w1.heap.size, s, none⟩ = some v := fun cur v hg hc => by simp [World.cell?, hg, hc]
  have hwr := hJ
  obtain ⟨cur0, U0, hg0, _, hu0, _⟩ := hwr
  obtain ⟨cur, U, hg, hc, hu, hB, hp, hd⟩ := hJ.below hb
  have eU : U0 s = U s := by
    have h1 := hu0 s hs
    have h2 := hu s hs
    rw [hb.block _ hlt0, hg0] at hg
    simp only [Option.some.injEq, Obj.cells.injEq, and_true] at hg
    rw [hg] at h1
    rw [h1] at h2
    exact Option.some.inj h2
  obtain ⟨hs', hown, hrows⟩ := hp s hs
  have hg2 : w1.heap.size < w2.heap.size := (Array.getElem?_eq_some_iff.1 hg).1
  obtain ⟨v', W', e, h2, h3, _, h5⟩ := run_append_own_at (P := Tryd.prog) (w2.alloc (.cells #[q] 25)) (w1.heap.size + 1) 27 ty 25 i0 _ 1 24 Tryd.underlying27 hi hz0 hz1 hz2 rfl (by omega) (U s) (PT s).length hs' (hown.alloc _) ⟨w2.heap.size, 0, none⟩ 1 1 [q] rfl
    (cell_one_new w2 q 25) (by simpa using ownR_one hq) (by unfold maxLen; omega) (by omega) (by simp; omega)
  have gA : w2.grownBy (w2.alloc (.cells #[q] 25)) (U s).ownBlock := World.grownBy_alloc w2 _ _
  have g3 : w2.grownBy W' (U s).ownBlock := World.grownBy.trans gA h3
  have hG : W'.heap[w1.heap.size]? = some (.cells cur 27 (0, 0)) := by
    rw [g3.block _ hg2 (fun e => by have := (hown.lt _ e.symm).1; omega)]; exact hg
  have hq' : OwnR (w1.heap.size + 1) w2 q r := by
    obtain ⟨hl, h | ⟨g, cap, cu, h0, h1, rest⟩⟩ := hq
    · exact ⟨hl, .inl h⟩
    · exact ⟨hl, .inr ⟨g, cap, cu, h0, by omega, rest⟩⟩
  have hap : ∀ u xs, OwnR (w1.heap.size + 1) w2 u xs → u.ownBlock = none ∨ u.ownBlock ≠ (U s).ownBlock := fun u xs h => own_apart hown h
  have gS : W'.grownBy (W'.setCell ⟨w1.heap.size, s, none⟩ v') (some w1.heap.size) := ⟨rfl, rfl, rfl, by simp [World.setCell], fun k _ hk => heap_setCell_other W' ⟨w1.heap.size, s, none⟩ k v' (fun e => hk (by rw [show k = w1.heap.size from e]))⟩
  have hbase : ∀ u xs, OwnR (w1.heap.size + 1) W' u xs → u.ownBlock = none ∨ u.ownBlock ≠ some w1.heap.size := fun u xs h => by
    cases ho : u.ownBlock with
    | none => exact .inl rfl
    | some k => exact .inr (by have := (h.lt k ho).1; simp; omega)
  have hbaseP : ∀ v ks, PartR (w1.heap.size + 1) W' v ks → v.ownBlock = none ∨ v.ownBlock ≠ some w1.heap.size := fun v ks h => by
    obtain ⟨hs, ho, _⟩ := h
    cases hb : v.ownBlock with
    | none => exact .inl rfl
    | some k => exact .inr (by have := (ho.lt k hb).1; simp; omega)
  have hPs : PartR (w1.heap.size + 1) W' v' (PT s ++ [r]) := by
    have hul : hs'.length = (PT s).length := by simpa using hown.1
    refine ⟨hs' ++ [q], by simpa using h2, fun m hm => ?_⟩
    by_cases hm' : m < (PT s).length
    · obtain ⟨u, h1, h2⟩ := hrows m hm'
      exact ⟨u, by rw [List.getElem?_append_left (by omega)]; exact h1, by rw [List.getElem_append_left hm']; exact World.ownsRow.kept h2 g3 (hap u _ h2)⟩
    · have : m = (PT s).length := by simp at hm; omega
      subst this
      exact ⟨q, by rw [List.getElem?_append_right (by omega), hul, Nat.sub_self]; rfl, by
        have e : (PT s ++ [r])[(PT s).length]'hm = r := by rw [List.getElem_append_right (by omega)]; simp
        rw [e]
        exact World.ownsRow.kept hq' g3 (hap q _ hq')⟩
  have hPj : ∀ j, j < S → j ≠ s → PartR (w1.heap.size + 1) W' (U j) (PT j) := fun j hj hne => (hp j hj).kept g3 (hd j s hj hs hne) hap
  have form : ∀ v : Value, ∀ n xs, (∃ W : World, W.ownsRow (w1.heap.size + 1) 25 1 v n xs) → ∃ p n c, v = .slice p n c := fun v n xs ⟨W, h⟩ => by
    obtain ⟨_, ⟨rfl, _⟩ | ⟨g, cap, cu, rfl, _⟩⟩ := h <;> exact ⟨_, _, _, rfl⟩
  refine ⟨U s, v', W', by rw [← eU]; exact hcell0 cur0 _ hg0 (hu0 s hs), form _ _ _ ⟨_, hown⟩, form _ _ _ ⟨_, h2⟩, e, by simp [World.cell?, hG, hu s hs], frozen_zero hG s, cur.setIfInBounds s v', fun j => if j = s then v' else U j, heap_setCell_same W' w1.heap.size s cur 27 v' hG, by simpa using hc, fun j hj => ?_, ?_, fun j hj => ?_, fun i j hi hj hij => ?_⟩
  · by_cases e : j = s
    · subst e; simp only [if_true]; rw [Array.getElem?_setIfInBounds_self_of_lt (by omega)]
    · simp only [if_neg e]; rw [Array.getElem?_setIfInBounds_ne (Ne.symm e)]; exact hu j hj
  · have hb3 : Below w1.heap.size w1 W' := grown_below hB g3 (fun k hk => by have := (hown.lt k hk).1; omega)
    exact grown_below hb3 gS (fun k hk => by simp only [Option.some.injEq] at hk; omega)
  · by_cases e : j = s
    · subst e
      simp only [if_true]
      exact hPs.kept gS (hbaseP _ _ hPs) hbase
    · simp only [if_neg e]
      exact (hPj j hj e).kept gS (hbaseP _ _ (hPj j hj e)) hbase
  · have hlt' : ∀ j, j < S → ∀ k, (U j).ownBlock = some k → k < w2.heap.size := fun j hj k hk => by
      obtain ⟨hs, ho, _⟩ := hp j hj
      exact (ho.lt k hk).2
    by_cases e1 : i = s
    · subst e1
      have hji : j ≠ i := Ne.symm hij
      simp only [if_true, if_neg hji]
      rcases h5 with h5 | h5
      · rw [h5]; exact hd i j hi hj hij
      · refine .inr fun e => ?_
        rw [h5] at e
        have := hlt' j hj _ e.symm
        simp at this
        omega
    · simp only [if_neg e1]
      by_cases e2 : j = s
      · subst e2
        simp only [if_true]
        rcases h5 with h5 | h5
        · rw [h5]; exact hd i j hi hj hij
        · cases ho : (U i).ownBlock with
          | none => exact .inl rfl
          | some k =>
            refine .inr fun e => ?_
            rw [h5] at e
            have := hlt' i hi k ho
            simp only [Option.some.injEq] at e
            simp at e
            omega
      · simp only [if_neg e2]
        exact hd i j hi hj hij
end Go.Proofs.YthfoijnjgdeaaaaDoor
