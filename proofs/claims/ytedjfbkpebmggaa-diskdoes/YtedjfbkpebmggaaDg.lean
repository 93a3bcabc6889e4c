/- A file that is put in: what Insert answers. -/
import Derived.Test.YtedjfbkpebmggaaDf
import Derived.Shelf.Spec.SlicesInsert
import Derived.Lib.AppendZerosOnto
import Derived.Laws.NewBlocks
import Derived.Deep.RegionLaw
namespace Go.Proofs.Ytedjfbkpebmggaa
open Go.Shelf Go.RowKit Go.Lib Go.Sort
set_option linter.unusedVariables false
set_option linter.unusedSimpArgs false
attribute [local go_sem ↓] Go.wp_at_zero Go.wp_at_succ
theorem run_copy3 (w : World) (ty : TypeId) (g o n dc : Nat) (a : Addr) (m sc k : Nat) (vs : List Value) (cur : Array Value) (hg : w.heap[g]? = some (.cells cur 41 (0, 0))) (hk : min n m = k) (hvl : vs.length = k * 3) (hfit : o + k * 3 ≤ cur.size)
    (hvs : ∀ j u, vs[j]? = some u → w.cell? (a.add j) = some u) (h1 : ∀ u ∈ vs, u.oneCell' = true) :
    (Builtin.copy_ #[22, 22] ty #[.slice (some ⟨g, o, none⟩) n dc, .slice (some a) m sc]).run Try.prog w = .ok (goInt k) (w.setRow g (cur.toList.take o ++ vs ++ cur.toList.drop (o + vs.length)).toArray) := by
  obtain ⟨i0, hi, hz0, hz1, hz2⟩ := info41
  have hst := run_storeCells_at Try.prog g o 41 vs 0 cur w hg (by omega) h1
  have hl := run_loadCells_list (P := Try.prog) w a vs hvs
  rw [hvl] at hl
  have hk2 : m.min n = k := by rw [← hk]; exact Nat.min_comm m n
  simp only [Nat.add_zero] at hst
  simp [Builtin.copy_, run_underlying Try.underlying22, Builtin.lenOf, Builtin.firstCells, sizeOf, typeInfo, hi, hz1, hk2, hl, hst]
theorem flat_cut (l : List DF) (k : Nat) : flat l = flat (l.take k) ++ flat (l.drop k) := by rw [← flat_append, List.take_append_drop]
theorem flat_take (l : List DF) (k : Nat) : flat (l.take k) = (flat l).take (k * 3) := by
  by_cases h : k ≤ l.length
  · have hl : (flat (l.take k)).length = k * 3 := by rw [flat_length, List.length_take]; omega
    rw [flat_cut l k, ← hl]
    exact List.take_left.symm
  · rw [List.take_of_length_le (by omega), List.take_of_length_le (by rw [flat_length]; omega)]
theorem flat_drop (l : List DF) (k : Nat) : flat (l.drop k) = (flat l).drop (k * 3) := by
  by_cases h : k ≤ l.length
  · have hl : (flat (l.take k)).length = k * 3 := by rw [flat_length, List.length_take]; omega
    rw [flat_cut l k, ← hl]
    exact List.drop_left.symm
  · rw [List.drop_of_length_le (by omega), List.drop_of_length_le (by rw [flat_length]; omega)]; rfl
/-- With a file at the place k. -/
def insK (k : Nat) (f : DF) (l : List DF) : List DF := l.take k ++ f :: l.drop k
theorem insK_length (k : Nat) (f : DF) (l : List DF) : (insK k f l).length = l.length + 1 := by
  unfold insK; simp; omega
theorem flat_insK (k : Nat) (f : DF) (l : List DF) : flat (insK k f l) = (flat l).take (k * 3) ++ (flat [f] ++ (flat l).drop (k * 3)) := by
  unfold insK
  rw [show f :: l.drop k = [f] ++ l.drop k from rfl, flat_append, flat_append, flat_take, flat_drop]
set_option maxRecDepth 100000 in
set_option maxHeartbeats 2000000 in
/-- At the end. -/
theorem insEnd_any (v : Value) (l : List DF) (f : DF) (vb : Nat) (w0 w : World) (h : OwnF w0.heap.size w v l) (hbw : Below w0.heap.size w0 w) (hm : (l.length + 1) * 40 ≤ 140737488355328)
    (hv : w.heap[vb]? = some (.cells #[.string f.n, .string f.d, .int .i64 f.y] 41 (0, 0))) :
    Calls Try.prog 50 #[v, .int .i64 l.length, .slice (some ⟨vb, 0, none⟩) 1 1] w fun e w' => ∃ u, e = .returned u ∧ OwnF w0.heap.size w' u (insK l.length f l) ∧ Below w0.heap.size w0 w' := by
  obtain ⟨i0, hi0, hz0', hz1', hz2'⟩ := info41
  have HC : Hid (∀ j u, (flat [f])[j]? = some u → w.cell? ((⟨vb, 0, none⟩ : Addr).add j) = some u) := by
    refine flat_add (fun j hj => ?_)
    match j, hj with
    | 0, _ => exact ⟨cell_of_row hv rfl, cell_of_row hv rfl, cell_of_row hv rfl⟩
  have HL : Hid ((flat [f]).length = 1 * 3) := flat_length _
  have HO : Hid (∀ u ∈ flat [f], u.oneCell' = true) := flat_one _
  have HE : Hid (flat (insK l.length f l) = flat l ++ flat [f]) := by
    show _ = _
    rw [flat_insK, List.take_of_length_le (by rw [flat_length]; omega), List.drop_of_length_le (by rw [flat_length]; omega), List.append_nil]
  have HBW : Hid (Below w0.heap.size w0 w) := hbw
  have hown := h
  unfold OwnF at hown
  obtain ⟨hl, ⟨rfl, h0⟩ | ⟨g, cap, cur, rfl, hbg, hg, hnc, hcm, hcs, htake⟩⟩ := h
  · have hf : l = [] := List.eq_nil_of_length_eq_zero h0
    subst hf
    clear hl hv hbw
    go_enter Try.func50, Try.ntmps50
    go_wp2_with (at_builtin; refine wpList_append_own _ rfl _ _ 22 rfl w0.heap.size 41 i0 _ 3 40 Try.underlying22 hi0 hz0' hz1' hz2' rfl (by decide) _ 0 (flat []) rfl hown ⟨vb, 0, none⟩ 1 1 (flat [f]) rfl HL.out HC.out HO.out (by unfold maxLen; omega) (by omega) HBW.out.size ?_; intro v' w3 hown' hgrow3 hnil3)
    go_ret
    refine ⟨_, rfl, ?_, ?_⟩
    · unfold OwnF
      have e := HE.out
      simp only [List.length_nil] at e
      rw [e, insK_length]; exact hown'
    · exact Below.grown HBW.out hgrow3 HBW.out.size (fun j hj => by have := (hown.lt _ hj).1; omega)
  · have z0 : ((1 : Int) == 0) = false := rfl
    have zc : cap ≤ 9223372036854775807 := by unfold maxLen at hcm; omega
    clear hl hv hbw htake hg hcs hcm
    by_cases hcn : cap = l.length
    · subst hcn
      go_enter Try.func50, Try.ntmps50
      go_wp2_with (at_builtin; refine wpList_append_own _ rfl _ _ 22 rfl w0.heap.size 41 i0 _ 3 40 Try.underlying22 hi0 hz0' hz1' hz2' rfl (by decide) _ l.length (flat l) rfl hown ⟨vb, 0, none⟩ 1 1 (flat [f]) rfl HL.out HC.out HO.out (by unfold maxLen; omega) (by omega) HBW.out.size ?_; intro v' w3 hown' hgrow3 hnil3)
      go_ret
      refine ⟨_, rfl, ?_, ?_⟩
      · unfold OwnF; rw [HE.out, insK_length]; exact hown'
      · exact Below.grown HBW.out hgrow3 HBW.out.size (fun j hj => by have := (hown.lt _ hj).1; omega)
    · go_enter Try.func50, Try.ntmps50
      go_wp2_with (at_builtin; refine wpList_append_own _ rfl _ _ 22 rfl w0.heap.size 41 i0 _ 3 40 Try.underlying22 hi0 hz0' hz1' hz2' rfl (by decide) _ l.length (flat l) rfl hown ⟨vb, 0, none⟩ 1 1 (flat [f]) rfl HL.out HC.out HO.out (by unfold maxLen; omega) (by omega) HBW.out.size ?_; intro v' w3 hown' hgrow3 hnil3)
      go_ret
      refine ⟨_, rfl, ?_, ?_⟩
      · unfold OwnF; rw [HE.out, insK_length]; exact hown'
      · exact Below.grown HBW.out hgrow3 HBW.out.size (fun j hj => by have := (hown.lt _ hj).1; omega)
end Go.Proofs.Ytedjfbkpebmggaa
