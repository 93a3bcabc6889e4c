/- The law PlaceTurned: its pieces. -/
import Derived.Test.YthfoijnjgdeaaaaDoorOnceWalk
namespace Go.Proofs.YthfoijnjgdeaaaaDoor
open Go.Shelf Go.RowKit Go.Lib Go.Sort
set_option linter.unusedVariables false
set_option linter.unusedSimpArgs false
theorem rowsGo_zero : ∀ (rs : List (List Val)) (cs : List Col), rowsGo rs cs = 0 ↔ ∀ r ∈ rs, rowV r cs = 0
  | [], cs => by simp [rowsGo]
  | q :: rs, cs => by
    have ih := rowsGo_zero rs cs
    unfold rowsGo
    by_cases h0 : rowV q cs = 0
    · rw [if_pos h0, ih]; simp [h0]
    · rw [if_neg h0]; simp [h0]
theorem tableV_rev (nm : ByteArray) (cs : List Col) (rs : List (List Val)) : tableV nm cs rs.reverse = 0 ↔ tableV nm cs rs = 0 := by
  unfold tableV
  rw [List.length_reverse]
  by_cases h0 : nameV nm = 0
  · rw [if_pos h0, if_pos h0]
    by_cases h1 : colsV cs = 0
    · rw [if_pos h1, if_pos h1]
      by_cases h2 : 64 < rs.length
      · rw [if_pos h2, if_pos h2]
      · rw [if_neg h2, if_neg h2, rowsGo_zero, rowsGo_zero]; simp
    · rw [if_neg h1, if_neg h1]
  · rw [if_neg h0, if_neg h0]
theorem splitE_rev (N S R : Int) (nm : ByteArray) (cs : List Col) (rs : List (List Val)) : splitE N S R nm cs rs.reverse = 0 ↔ splitE N S R nm cs rs = 0 := by
  unfold splitE
  by_cases h0 : layE N S R = 0
  · rw [if_pos h0, if_pos h0]; exact tableV_rev nm cs rs
  · rw [if_neg h0, if_neg h0]
theorem part_rev (S : Int) (rs : List (List Val)) (j : Nat) : (partOf S rs j).Perm (partOf S rs.reverse j) := by
  unfold partOf
  rw [List.filter_reverse]
  exact (List.reverse_perm _).symm
/-- Rows that are being turned: the box of the table, and its rows so far. -/
def TurnJ (w1 : World) (nm : ByteArray) (vc : Value) (ks : List (List Val)) (v : Value) (wx : World) : Prop :=
  wx.heap[w1.heap.size]? = some (.cells #[.string nm, vc, v] 29 (0, 0)) ∧ Below w1.heap.size w1 wx ∧ ∃ us, wx.ownsRow (w1.heap.size + 1) 25 1 v ks.length us ∧ ∀ j (h : j < ks.length), ∃ q m d, us[j]? = some (.slice q m d) ∧ RowA w1 (.slice q m d) ks[j]
theorem turn_start (w1 : World) (nm : ByteArray) (vc : Value) : TurnJ w1 nm vc [] (.slice none 0 0) (w1.alloc (.cells #[.string nm, vc, .slice none 0 0] 29)) :=
  ⟨heap_alloc_new w1 _, (Below.refl _ _).alloc (Nat.le_refl _) _, [], World.ownsRow_nil _ _ _ _, fun j h => by simp at h⟩
theorem turn_step {w1 wr : World} {nm : ByteArray} {vc v : Value} {ks : List (List Val)} {q : Option Addr} {m d : Nat} {r : List Val} (hJ : TurnJ w1 nm vc ks v wr) (hr : RowA w1 (.slice q m d) r) (hn : (ks.length + 1) * 24 ≤ 140737488355328) (ty : TypeId) :
    ∃ p n c W', (Builtin.append_ #[27, 27] ty #[v, .slice (some ⟨wr.heap.size, 0, none⟩) 1 1]).run Tryd.prog (wr.alloc (.cells #[.slice q m d] 25)).drew = .ok (.slice p n c) W' ∧
      (∃ o, W'.cell? ⟨w1.heap.size, 2, none⟩ = some o) ∧ W'.frozen? ⟨w1.heap.size, 2, none⟩ = false ∧ TurnJ w1 nm vc (ks ++ [r]) (.slice p n c) (W'.setCell ⟨w1.heap.size, 2, none⟩ (.slice p n c)) := by
  obtain ⟨i0, hi, hz0, hz1, hz2⟩ := info38
  obtain ⟨hbox, hB, us, hown, hus⟩ := hJ
  have hlt : w1.heap.size < wr.heap.size := (Array.getElem?_eq_some_iff.1 hbox).1
  have hul : us.length = ks.length := by simpa using hown.1
  have hown1 : (wr.alloc (.cells #[.slice q m d] 25)).drew.ownsRow (w1.heap.size + 1) 25 1 v ks.length us := hown.alloc _
  obtain ⟨v', W', e, h2, h3, _, h5⟩ := run_append_own_at (P := Tryd.prog) (wr.alloc (.cells #[.slice q m d] 25)).drew (w1.heap.size + 1) 27 ty 25 i0 _ 1 24 Tryd.underlying27 hi hz0 hz1 hz2 rfl (by omega) v ks.length us hown1 ⟨wr.heap.size, 0, none⟩ 1 1 [.slice q m d] rfl
    (cell_one_new wr _ 25) (by simp [Value.oneCell']) (by unfold maxLen; omega) (by omega) (by show w1.heap.size + 1 ≤ (wr.alloc _).heap.size; simp; omega)
  have gA0 : wr.grownBy (wr.alloc (.cells #[.slice q m d] 25)) v.ownBlock := World.grownBy_alloc wr _ _
  have gA : wr.grownBy (wr.alloc (.cells #[.slice q m d] 25)).drew v.ownBlock := ⟨gA0.os, gA0.tape, gA0.output, gA0.size, gA0.block⟩
  have g3 : wr.grownBy W' v.ownBlock := World.grownBy.trans gA h3
  obtain ⟨p, n, c, rfl⟩ : ∃ p n c, v' = .slice p n c := by
    obtain ⟨_, ⟨rfl, _⟩ | ⟨g, cap, cu, rfl, _⟩⟩ := h2 <;> exact ⟨_, _, _, rfl⟩
  have hbox' : W'.heap[w1.heap.size]? = some (.cells #[.string nm, vc, v] 29 (0, 0)) := by
    rw [g3.block _ hlt (fun e => by have := (hown.lt _ e.symm).1; omega)]; exact hbox
  have gS : W'.grownBy (W'.setCell ⟨w1.heap.size, 2, none⟩ (.slice p n c)) (some w1.heap.size) := ⟨rfl, rfl, rfl, by simp [World.setCell], fun k _ hk => heap_setCell_other W' ⟨w1.heap.size, 2, none⟩ k _ (fun e => hk (by rw [show k = w1.heap.size from e]))⟩
  have hB3 : Below w1.heap.size w1 W' := grown_below hB g3 (fun k hk => by have := (hown.lt k hk).1; omega)
  refine ⟨p, n, c, W', e, ⟨v, by simp [World.cell?, hbox']⟩, frozen_zero hbox' 2, ?_, grown_below hB3 gS (fun k hk => by simp only [Option.some.injEq] at hk; omega), us ++ [.slice q m d], ?_, fun j hj => ?_⟩
  · have := heap_setCell_same W' w1.heap.size 2 _ 29 (.slice p n c) hbox'
    rw [this]
    rfl
  · have hk : W'.ownsRow (w1.heap.size + 1) 25 1 (.slice p n c) (ks ++ [r]).length (us ++ [.slice q m d]) := by simpa using h2
    refine hk.kept gS ?_
    cases ho : (Value.slice p n c).ownBlock with
    | none => exact .inl rfl
    | some k => exact .inr (by have := (hk.lt k ho).1; simp; omega)
  · by_cases hj' : j < ks.length
    · obtain ⟨q', m', d', h1, h2⟩ := hus j hj'
      exact ⟨q', m', d', by rw [List.getElem?_append_left (by omega)]; exact h1, by rw [List.getElem_append_left hj']; exact h2⟩
    · have : j = ks.length := by simp at hj; omega
      subst this
      refine ⟨q, m, d, by rw [List.getElem?_append_right (by omega), hul, Nat.sub_self]; rfl, ?_⟩
      have e : (ks ++ [r])[ks.length]'hj = r := by rw [List.getElem_append_right (by omega)]; simp
      rw [e]
      exact hr
theorem TurnJ.rows {w1 wx : World} {nm : ByteArray} {vc v : Value} {ks : List (List Val)} (h : TurnJ w1 nm vc ks v wx) (hn : ks.length ≤ 9223372036854775807) : ∃ p c, v = .slice p ks.length c ∧ RowsA wx p ks := by
  obtain ⟨hbox, hB, us, ho, hus⟩ := h
  obtain ⟨hl, ⟨rfl, h0⟩ | ⟨g, cap, cur, rfl, hbg, hg, hnc, hcm, hcs, htake⟩⟩ := ho
  · refine ⟨none, 0, by rw [h0], hn, fun h => by omega⟩
  · refine ⟨_, cap, rfl, hn, fun _ => ⟨g, 0, rfl, (Array.getElem?_eq_some_iff.1 hg).1, fun j hj => ?_⟩⟩
    obtain ⟨q, m, d, h1, h2⟩ := hus j hj
    refine ⟨q, m, d, ?_, h2.below hB⟩
    rw [← htake] at h1
    rw [Nat.zero_add]
    simp only [World.cell?, hg]
    have := List.getElem?_take (l := cur.toList) (i := ks.length * 1) (j := j)
    rw [h1] at this
    split at this
    · simpa using this.symm
    · cases this
theorem rev_take (rs : List (List Val)) (m : Nat) (h : m < rs.length) : rs.reverse.take (m + 1) = rs.reverse.take m ++ [rs[rs.length - 1 - m]'(by omega)] := by
  rw [List.take_succ_eq_append_getElem (by simpa using h), List.getElem_reverse]
end Go.Proofs.YthfoijnjgdeaaaaDoor
