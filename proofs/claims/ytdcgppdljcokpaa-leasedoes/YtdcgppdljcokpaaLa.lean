/- Lists of numbers, and of truths, that lie in memory. -/
import Derived.Test.YtdcgppdljcokpaaChecked
import Derived.Lib.Walk
import Derived.LoopTactic
import Derived.Deep.DeepCutAuto
import Derived.Deep.LoopGhost
import Derived.Shelf.RegionOpenPlain
import Derived.Laws.CopyRow
import Derived.Laws.OwnMore
import Derived.Laws.MakeOwn
import Derived.Deep.AppendLies
import Derived.Maps.AppendAt
import Derived.Deep.Slices
import Derived.Lib.LazyBuf
import Derived.Lib.SliceRun
import Derived.Laws.IdiomCopy
import Derived.Deep.RegionHeld3
import Derived.Sort.WalkA
import Derived.Deep.DrawnRows
import Derived.Laws.Cover1
namespace Go.Proofs.Ytdcgppdljcokpaa
open Go.Shelf Go.RowKit Go.Lib Go.Sort
set_option linter.unusedVariables false
set_option linter.unusedSimpArgs false
attribute [local go_sem ↓] Go.wp_at_zero Go.wp_at_succ
theorem hid {P : Prop} (h : P) : Hid P := h
theorem frozen_zero {w : World} {g : Nat} {cur : Array Value} {e : TypeId} (h : w.heap[g]? = some (.cells cur e (0, 0))) (j : Nat) : w.frozen? ⟨g, j, none⟩ = false := by
  simp [World.frozen?, h]
theorem cell_box (W : World) (vs : Array Value) (t : TypeId) (i : Nat) (v : Value) (h : vs[i]? = some v) : (W.alloc (.cells vs t)).cell? ⟨W.heap.size, i, none⟩ = some v := by
  simp only [World.cell?, heap_alloc_new]
  simpa using h
theorem cell_of_row {W : World} {g k : Nat} {cur : Array Value} {t : TypeId} (hg : W.heap[g]? = some (.cells cur t (0, 0))) {v : Value} (h : cur[k]? = some v) : W.cell? ⟨g, k, none⟩ = some v := by simp [World.cell?, hg, h]
theorem one_below (w : World) (o : Obj) : Below w.heap.size w (w.alloc o) := (Below.refl _ _).alloc (Nat.le_refl _) _
theorem two_below (w : World) (o1 o2 : Obj) : Below w.heap.size w ((w.alloc o1).alloc o2) := (one_below w o1).alloc (by simp) _
theorem three_below (w : World) (o1 o2 o3 : Obj) : Below w.heap.size w (((w.alloc o1).alloc o2).alloc o3) := (two_below w o1 o2).alloc (by simp; omega) _
theorem below_drewN {B : Nat} {a w : World} (h : Below B a w) (n : Nat) : Below B a (w.drewN n) := ⟨h.os, h.tape, h.output, h.size, h.block⟩
/-- Numbers at a place of a block. -/
def NIs (w : World) (b o : Nat) (zs : List Int) : Prop := ∀ j (h : j < zs.length), w.cell? ⟨b, o + j, none⟩ = some (.int .u64 zs[j])
/-- Numbers of 64 bits. -/
def InU (zs : List Int) : Prop := ∀ z ∈ zs, 0 ≤ z ∧ z < 18446744073709551616
/-- A list of numbers that lies in memory. -/
def NumsL (w : World) (v : Value) (zs : List Int) : Prop :=
  ∃ p c, v = .slice p zs.length c ∧ zs.length ≤ c ∧ c ≤ 9223372036854775807 ∧ zs.length * 8 ≤ 140737488355328 ∧ InU zs ∧ (p = none → c = 0) ∧ (0 < zs.length → ∃ b o, p = some ⟨b, o, none⟩ ∧ b < w.heap.size ∧ NIs w b o zs)
theorem NIs.below {w W : World} {b o : Nat} {zs : List Int} (h : NIs w b o zs) (hlt : b < w.heap.size) (hb : Below w.heap.size w W) : NIs W b o zs := fun j hj => by
  rw [hb.cell (p := ⟨b, _, none⟩) hlt]; exact h j hj
theorem NumsL.below {w W : World} {v : Value} {zs : List Int} (h : NumsL w v zs) (hb : Below w.heap.size w W) : NumsL W v zs := by
  obtain ⟨p, c, rfl, hlc, hc, hl, hs, hn, h⟩ := h
  refine ⟨p, c, rfl, hlc, hc, hl, hs, hn, fun h0 => ?_⟩
  obtain ⟨b, o, rfl, hlt, hc⟩ := h h0
  exact ⟨b, o, rfl, Nat.lt_of_lt_of_le hlt hb.size, hc.below hlt hb⟩
theorem NumsL.inU {w : World} {v : Value} {zs : List Int} (h : NumsL w v zs) : InU zs := by obtain ⟨_, _, _, _, _, _, hs, _⟩ := h; exact hs
theorem NumsL.many {w : World} {v : Value} {zs : List Int} (h : NumsL w v zs) : zs.length * 8 ≤ 140737488355328 := by obtain ⟨_, _, _, _, _, hl, _⟩ := h; exact hl
theorem NumsL.nil (w : World) : NumsL w (.slice none 0 0) [] := ⟨none, 0, rfl, Nat.le_refl _, by omega, by simp, fun f hf => by simp at hf, fun _ => rfl, fun h => by simp at h⟩
theorem info25 : ∃ i0, Try.prog.info? 25 = some i0 ∧ i0.zero = some (.int .u64 0) ∧ i0.size = 1 ∧ i0.bytes = 8 := by
  have h1 : (Try.prog.info? 25).bind (·.zero) = some (.int .u64 0) := by kernel_rfl
  have h2 : (Try.prog.info? 25).map (·.size) = some 1 := by kernel_rfl
  have h3 : (Try.prog.info? 25).map (·.bytes) = some 8 := by kernel_rfl
  generalize Try.prog.info? 25 = i at *
  cases i with
  | none => cases h1
  | some i => exact ⟨i, rfl, h1, Option.some.inj h2, Option.some.inj h3⟩
theorem info4 : ∃ i0, Try.prog.info? 4 = some i0 ∧ i0.zero = some (.bool false) ∧ i0.size = 1 ∧ i0.bytes = 1 := by
  have h1 : (Try.prog.info? 4).bind (·.zero) = some (.bool false) := by kernel_rfl
  have h2 : (Try.prog.info? 4).map (·.size) = some 1 := by kernel_rfl
  have h3 : (Try.prog.info? 4).map (·.bytes) = some 1 := by kernel_rfl
  generalize Try.prog.info? 4 = i at *
  cases i with
  | none => cases h1
  | some i => exact ⟨i, rfl, h1, Option.some.inj h2, Option.some.inj h3⟩
/-- Numbers in memory of their own. -/
def OwnN (base : Nat) (W : World) (u : Value) (zs : List Int) : Prop := W.ownsRow base 25 1 u zs.length (zs.map fun z => .int .u64 z)
theorem OwnN.nums {base : Nat} {W : World} {u : Value} {zs : List Int} (h : OwnN base W u zs) (hm : zs.length * 8 ≤ 140737488355328) (hs : InU zs) : NumsL W u zs := by
  obtain ⟨hl, ⟨rfl, hn⟩ | ⟨g, cap, cur, rfl, hb, hg, hnc, hcm, hcs, htake⟩⟩ := h
  · exact ⟨none, 0, by rw [hn], by omega, by omega, hm, hs, fun _ => rfl, fun h => by omega⟩
  · refine ⟨_, cap, rfl, hnc, by unfold maxLen at hcm; omega, hm, hs, (fun h => by cases h), fun _ => ⟨g, 0, rfl, (Array.getElem?_eq_some_iff.1 hg).1, ?_⟩⟩
    intro j hj
    rw [Nat.zero_add]
    simp only [World.cell?, hg]
    have h1 : (cur.toList.take (zs.length * 1))[j]? = some (.int .u64 zs[j]) := by rw [htake]; simp [hj]
    rw [List.getElem?_take_of_lt (by omega)] at h1
    simpa using h1
theorem OwnN.below {base : Nat} {W W' : World} {u : Value} {zs : List Int} (h : OwnN base W u zs) (hb : Below W.heap.size W W') : OwnN base W' u zs := by
  obtain ⟨hl, ⟨rfl, hn⟩ | ⟨g, cap, cur, rfl, h1, hg, r⟩⟩ := h
  · exact ⟨hl, .inl ⟨rfl, hn⟩⟩
  · exact ⟨hl, .inr ⟨g, cap, cur, rfl, h1, by rw [hb.block _ (Array.getElem?_eq_some_iff.1 hg).1]; exact hg, r⟩⟩
theorem OwnN.mono {a b : Nat} {W : World} {u : Value} {zs : List Int} (h : OwnN b W u zs) (hab : a ≤ b) : OwnN a W u zs := by
  obtain ⟨hl, ⟨rfl, hn⟩ | ⟨g, cap, cur, rfl, h1, r⟩⟩ := h
  · exact ⟨hl, .inl ⟨rfl, hn⟩⟩
  · exact ⟨hl, .inr ⟨g, cap, cur, rfl, by omega, r⟩⟩
theorem OwnN.but {base g : Nat} {W W' : World} {u : Value} {zs : List Int} (h : OwnN base W u zs) (hg : g < base) (hoth : ∀ j, j ≠ g → W'.heap[j]? = W.heap[j]?) : OwnN base W' u zs := by
  obtain ⟨hl, ⟨rfl, hn⟩ | ⟨b, cap, cur, rfl, h1, hb, r⟩⟩ := h
  · exact ⟨hl, .inl ⟨rfl, hn⟩⟩
  · exact ⟨hl, .inr ⟨b, cap, cur, rfl, h1, by rw [hoth b (by omega)]; exact hb, r⟩⟩
/-- A list of truths that lies in memory. -/
def BoolsL (w : World) (v : Value) (bs : List Bool) : Prop :=
  ∃ p c, v = .slice p bs.length c ∧ bs.length ≤ 8 ∧ (0 < bs.length → ∃ b o, p = some ⟨b, o, none⟩ ∧ b < w.heap.size ∧ ∀ j (h : j < bs.length), w.cell? ⟨b, o + j, none⟩ = some (.bool bs[j]))
theorem BoolsL.below {w W : World} {v : Value} {bs : List Bool} (h : BoolsL w v bs) (hb : Below w.heap.size w W) : BoolsL W v bs := by
  obtain ⟨p, c, rfl, hl, h⟩ := h
  refine ⟨p, c, rfl, hl, fun h0 => ?_⟩
  obtain ⟨b, o, rfl, hlt, hc⟩ := h h0
  exact ⟨b, o, rfl, Nat.lt_of_lt_of_le hlt hb.size, fun j hj => by rw [hb.cell (p := ⟨b, _, none⟩) hlt]; exact hc j hj⟩
/-- Leases that are right. -/
def okL (bs ss : List Int) : Prop := bs.length = ss.length ∧ 2 ≤ bs.length ∧ bs.length ≤ 8
abbrev okDec (bs ss : List Int) : Decidable (okL bs ss) := by unfold okL; infer_instance
def chL (bs ss : List Int) : Int := if bs.length = ss.length ∧ 2 ≤ bs.length ∧ bs.length ≤ 8 then 0 else 6
theorem chL_ok {bs ss : List Int} (h : okL bs ss) : chL bs ss = 0 := if_pos h
theorem chL_no {bs ss : List Int} (h : ¬ okL bs ss) : chL bs ss = 6 := if_neg h
theorem chL_zero {bs ss : List Int} : chL bs ss = 0 ↔ okL bs ss := by
  unfold chL okL
  split
  · exact ⟨fun _ => by assumption, fun _ => rfl⟩
  · exact ⟨fun h => by omega, fun h => absurd h (by assumption)⟩
/-- The set of a cell of a row. -/
theorem set_row {W : World} {g k : Nat} {cur : Array Value} {t : TypeId} (hg : W.heap[g]? = some (.cells cur t (0, 0))) (hk : k < cur.size) (v : Value) :
    (∃ o, W.cell? ⟨g, k, none⟩ = some o) ∧ W.frozen? ⟨g, k, none⟩ = false ∧ (W.setCell ⟨g, k, none⟩ v).heap[g]? = some (.cells (cur.setIfInBounds k v) t (0, 0)) ∧ ∀ B w0, Below B w0 W → B ≤ g → Below B w0 (W.setCell ⟨g, k, none⟩ v) := by
  refine ⟨⟨cur[k], by simp [World.cell?, hg, hk]⟩, frozen_zero hg k, heap_setCell_same W g k cur t v hg, fun B w0 hb hB => ⟨hb.os, hb.tape, hb.output, by simp [World.setCell]; exact hb.size, fun j hj => ?_⟩⟩
  rw [heap_setCell_other _ ⟨g, k, none⟩ j _ (by show j ≠ g; omega)]
  exact hb.block j hj
/-- The leases' box. -/
theorem box2 (w : World) (a b : Value) : ∃ W0, w.alloc (.cells #[a, b] 24) = W0 ∧ Below w.heap.size w W0 ∧ W0.heap.size = w.heap.size + 1 ∧
    (∀ W, Below W0.heap.size W0 W → W.cell? ⟨w.heap.size, 0, none⟩ = some a ∧ W.cell? ⟨w.heap.size, 1, none⟩ = some b) := by
  refine ⟨_, rfl, one_below _ _, by simp, fun W hb => ?_⟩
  have g0 : W.heap[w.heap.size]? = some (.cells #[a, b] 24 (0, 0)) := by
    rw [hb.block _ (by simp)]; exact heap_alloc_new w _
  exact ⟨cell_of_row g0 rfl, cell_of_row g0 rfl⟩
theorem setCell_self {W : World} {g k : Nat} {cur : Array Value} {t : TypeId} {v : Value} (hg : W.heap[g]? = some (.cells cur t (0, 0))) (h : cur[k]? = some v) : W.setCell ⟨g, k, none⟩ v = W := by
  rw [setCell_eq_setRow W g k cur t (0, 0) v hg]
  have : cur.setIfInBounds k v = cur := by
    apply Array.ext_getElem?
    intro j
    by_cases e : k = j
    · subst e
      by_cases hk : k < cur.size
      · rw [Array.getElem?_setIfInBounds_self_of_lt hk, h]
      · simp [Array.getElem?_eq_none (by omega : cur.size ≤ k)] at h
    · rw [Array.getElem?_setIfInBounds_ne e]
  rw [this]
  exact setRow_self W g cur t (0, 0) hg
/-- What a box of two lists holds behind two stores. -/
def Two (W : World) (g : Nat) (a0 b0 u v : Value) : Prop :=
  ∃ Wa Wb, W.setCell ⟨g, 0, none⟩ u = Wa ∧ Wa.setCell ⟨g, 1, none⟩ v = Wb ∧ W.cell? ⟨g, 0, none⟩ = some a0 ∧ W.frozen? ⟨g, 0, none⟩ = false ∧ Wa.cell? ⟨g, 1, none⟩ = some b0 ∧ Wa.frozen? ⟨g, 1, none⟩ = false ∧
    Wb.cell? ⟨g, 0, none⟩ = some u ∧ Wb.cell? ⟨g, 1, none⟩ = some v ∧ Wb.heap[g]? = some (.cells #[u, v] 24 (0, 0)) ∧ (∀ j, j ≠ g → Wb.heap[j]? = W.heap[j]?) ∧ W.heap.size ≤ Wb.heap.size ∧ ∀ B w0, Below B w0 W → B ≤ g → Below B w0 Wb
theorem set_two {W : World} {g : Nat} {a0 b0 : Value} (hg : W.heap[g]? = some (.cells #[a0, b0] 24 (0, 0))) (u v : Value) : Two W g a0 b0 u v := by
  obtain ⟨_, a2, a3, a4⟩ := set_row hg (k := 0) (by simp) u
  have e1 : (#[a0, b0] : Array Value).setIfInBounds 0 u = #[u, b0] := rfl
  rw [e1] at a3
  obtain ⟨_, b2, b3, b4⟩ := set_row a3 (k := 1) (by simp) v
  have e2 : (#[u, b0] : Array Value).setIfInBounds 1 v = #[u, v] := rfl
  rw [e2] at b3
  refine ⟨_, _, rfl, rfl, cell_of_row hg rfl, a2, cell_of_row a3 rfl, b2, cell_of_row b3 rfl, cell_of_row b3 rfl, b3, fun j hj => ?_, by simp [World.setCell], fun B w0 hb hB => b4 _ _ (a4 _ _ hb hB) hB⟩
  rw [heap_setCell_other _ _ j _ hj, heap_setCell_other _ _ j _ hj]
end Go.Proofs.Ytdcgppdljcokpaa
