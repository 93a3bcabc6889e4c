/- The law PlaceDown: its pieces. -/
import Derived.Test.YthfoijnjgdeaaaaDoorClaimsWalk
namespace Go.Proofs.YthfoijnjgdeaaaaDoor
open Go.Shelf Go.RowKit Go.Lib Go.Sort
set_option linter.unusedVariables false
set_option linter.unusedSimpArgs false
theorem liveL_nil (zs : List Int) : liveL [] zs = [] := by
  unfold liveL
  rw [List.filter_eq_nil_iff]
  intro z _
  simp [aliveB]
theorem alive_mono {al bl : List Bool} (h : ∀ k, al.getD k false = true → bl.getD k false = true) (z : Int) (hz : aliveB al z = true) : aliveB bl z = true := h _ hz
theorem allLive_mono {al bl : List Bool} (h : ∀ k, al.getD k false = true → bl.getD k false = true) (os : List (List Int)) (ha : allLive al os = true) : allLive bl os = true := by
  unfold allLive at ha ⊢
  rw [List.all_eq_true] at ha ⊢
  intro zs hz
  have h1 := ha zs hz
  simp only [decide_eq_true_eq] at h1 ⊢
  obtain ⟨z, hzm⟩ := List.exists_mem_of_ne_nil _ h1
  intro e
  have h2 := List.mem_filter.1 hzm
  have h3 : z ∈ liveL bl zs := List.mem_filter.2 ⟨h2.1, alive_mono h z h2.2⟩
  rw [e] at h3
  cases h3
theorem pkE_mono {N S R : Int} {nm : ByteArray} {cs : List Col} {os : List (List Int)} {al bl : List Bool} (h : ∀ k, al.getD k false = true → bl.getD k false = true) (h0 : pkE N S R nm cs os al = 0) : pkE N S R nm cs os bl = 0 := by
  unfold pkE at h0 ⊢
  by_cases hc : claimE N S R nm cs os = 0
  · rw [if_pos hc] at h0 ⊢
    by_cases ha : allLive al os = true
    · rw [if_pos (allLive_mono h os ha)]
    · rw [if_neg ha] at h0; cases h0
  · rw [if_neg hc] at h0; exact absurd h0 hc
theorem pkE_nil (N S R : Int) (nm : ByteArray) (cs : List Col) (os : List (List Int)) : pkE N S R nm cs os [] ≠ 0 := by
  intro h0
  unfold pkE at h0
  by_cases hc : claimE N S R nm cs os = 0
  · rw [if_pos hc] at h0
    by_cases ha : allLive [] os = true
    · obtain ⟨hl, hS, _⟩ := claimE_ok hc
      obtain ⟨_, _, k3, _⟩ := layE_zero.1 hl
      have hne : os ≠ [] := fun e => by rw [e] at hS; simp at hS; omega
      obtain ⟨zs, hz⟩ := List.exists_mem_of_ne_nil _ hne
      have := List.all_eq_true.1 ha zs hz
      simp [liveL_nil] at this
    · rw [if_neg ha] at h0; cases h0
  · rw [if_neg hc] at h0; exact absurd h0 hc
/-- Who is picked is a worker, and alive. -/
theorem zsP_ok {N S R : Int} {nm : ByteArray} {cs : List Col} {os : List (List Int)} {al : List Bool} : ∀ z ∈ zsP N S R nm cs os al, ∃ y : Nat, z = (y : Int) ∧ 1 ≤ y ∧ ∃ h : y < al.length, al[y] = true := by
  intro z hz
  unfold zsP at hz
  by_cases h0 : pkE N S R nm cs os al = 0
  · rw [if_pos h0] at hz
    have h1 : claimE N S R nm cs os = 0 ∧ allLive al os = true := by
      unfold pkE at h0
      by_cases hc : claimE N S R nm cs os = 0
      · rw [if_pos hc] at h0
        by_cases ha : allLive al os = true
        · exact ⟨hc, ha⟩
        · rw [if_neg ha] at h0; cases h0
      · rw [if_neg hc] at h0; exact absurd h0 hc
    obtain ⟨_, _, hos⟩ := claimE_ok h1.1
    simp only [pks, List.mem_map, List.mem_range] at hz
    obtain ⟨j, hj, rfl⟩ := hz
    have hm : os[j] ∈ os := List.getElem_mem hj
    have hl := List.all_eq_true.1 h1.2 _ hm
    simp only [decide_eq_true_eq] at hl
    have ei : os.getD j [] = os[j] := by simp [List.getD, hj]
    have hpos : 0 < (liveL al os[j]).length := List.length_pos_iff.2 hl
    have hmod : j % (liveL al os[j]).length < (liveL al os[j]).length := Nat.mod_lt _ hpos
    have hpk : pk al os j ∈ liveL al os[j] := by
      unfold pk
      rw [ei]
      simp only [List.getD, List.getElem?_eq_getElem hmod, Option.getD_some]
      exact List.getElem_mem hmod
    obtain ⟨h2, h3⟩ := List.mem_filter.1 hpk
    obtain ⟨h4, _⟩ := (hos _ hm).1 _ h2
    refine ⟨(pk al os j).toNat, by omega, by omega, ?_⟩
    unfold aliveB at h3
    by_cases hy : (pk al os j).toNat < al.length
    · exact ⟨hy, by simpa [List.getD, hy] using h3⟩
    · simp [List.getD, List.getElem?_eq_none (Nat.le_of_not_lt hy)] at h3
  · rw [if_neg h0] at hz; cases hz
theorem info4 : ∃ i0, Tryd.prog.info? 4 = some i0 ∧ i0.zero = some (.bool false) ∧ i0.size = 1 ∧ i0.bytes = 1 := by
  have h1 : (Tryd.prog.info? 4).bind (·.zero) = some (.bool false) := by kernel_rfl
  have h2 : (Tryd.prog.info? 4).map (·.size) = some 1 := by kernel_rfl
  have h3 : (Tryd.prog.info? 4).map (·.bytes) = some 1 := by kernel_rfl
  generalize Tryd.prog.info? 4 = i at *
  cases i with
  | none => cases h1
  | some i => exact ⟨i, rfl, h1, Option.some.inj h2, Option.some.inj h3⟩
theorem pkE_zero {N S R : Int} {nm : ByteArray} {cs : List Col} {os : List (List Int)} {al : List Bool} (h : pkE N S R nm cs os al ≠ 0) : zsP N S R nm cs os al = [] := by unfold zsP; rw [if_neg h]
end Go.Proofs.YthfoijnjgdeaaaaDoor
/- The law PlaceDown: lists of booleans. -/
namespace Go.Proofs.YthfoijnjgdeaaaaDoor
open Go.Shelf Go.RowKit Go.Lib Go.Sort
set_option linter.unusedVariables false
set_option linter.unusedSimpArgs false
attribute [local go_sem ↓] Go.wp_at_zero Go.wp_at_succ
/-- append([]bool{}, l...): booleans of their own memory. -/
theorem bools_new (W : World) (u : Value) (bs : List Bool) (hb : BoolsL W u bs) (hn : bs.length ≤ 140737488351232) :
    ∃ g cap W', (Builtin.append_ #[50, 50] 50 #[.slice (some ⟨W.heap.size, 0, none⟩) 0 0, u]).run Tryd.prog (W.alloc (.cells #[] 4)) = .ok (.slice (some ⟨g, 0, none⟩) bs.length cap) W' ∧ W'.ownsRow W.heap.size 4 1 (.slice (some ⟨g, 0, none⟩) bs.length cap) bs.length (bs.map fun b => .bool b) ∧ Below W.heap.size W W' := by
  obtain ⟨i0, hi, hz0, hz1, hz2⟩ := info4
  have hown : (W.alloc (.cells #[] 4)).ownsRow W.heap.size 4 1 (.slice (some ⟨W.heap.size, 0, none⟩) 0 0) 0 [] := ⟨rfl, .inr ⟨W.heap.size, 0, #[], rfl, Nat.le_refl _, heap_alloc_new W _, Nat.le_refl _, Nat.zero_le _, rfl, rfl⟩⟩
  have hbA : Below W.heap.size W (W.alloc (.cells #[] 4)) := (Below.refl _ _).alloc (Nat.le_refl _) _
  obtain ⟨p, c, rfl, hl, hp⟩ := hb
  by_cases h0 : 0 < bs.length
  · obtain ⟨b, o, rfl, hlt, hc⟩ := hp h0
    obtain ⟨v', W', e, h2, h3, h4, h5⟩ := run_append_own_at (P := Tryd.prog) (W.alloc (.cells #[] 4)) W.heap.size 50 50 4 i0 _ 1 1 Tryd.underlying50 hi hz0 hz1 hz2 rfl (by omega) _ 0 [] hown ⟨b, o, none⟩ bs.length c (bs.map fun b => .bool b) (by simp)
      (fun j u hu => by
        rw [Go.WideShapes.add_plain, World.cell?_of_block (w := W) (heap_alloc_old W _ hlt)]
        rw [List.getElem?_map] at hu
        by_cases hj : j < bs.length
        · rw [List.getElem?_eq_getElem hj] at hu
          rw [hc j hj]
          simpa using hu
        · rw [List.getElem?_eq_none (by omega)] at hu; cases hu) (fun x hx => by obtain ⟨z, _, rfl⟩ := List.mem_map.1 hx; rfl) (by unfold maxLen; omega) (by omega) (by simp)
    rw [Nat.zero_add, List.nil_append] at h2
    obtain ⟨g, cap, rfl, _, _⟩ := h2.form h0
    exact ⟨g, cap, W', e, h2, Below.grown hbA h3 (by simp) (fun j hj => by have := (hown.lt _ hj).1; omega)⟩
  · have : bs = [] := List.eq_nil_of_length_eq_zero (by omega)
    subst this
    refine ⟨W.heap.size, 0, _, ?_, hown, hbA⟩
    cases p with
    | none => simp [Builtin.append_, run_underlying Tryd.underlying50, sizeOf, typeInfo, hi, Builtin.lenOf, Builtin.firstCells, loadCells, loadCellsFrom, storeCells]
    | some a =>
      have hl : (loadCells a 0).run Tryd.prog (W.alloc (.cells #[] 4)) = .ok #[] (W.alloc (.cells #[] 4)) := by simpa using run_loadCells_list (P := Tryd.prog) (W.alloc (.cells #[] 4)) a [] (by simp)
      simp [Builtin.append_, run_underlying Tryd.underlying50, sizeOf, typeInfo, hi, Builtin.lenOf, Builtin.firstCells, hl, storeCells]
/-- A list of booleans in its own block. -/
theorem own_bools {base : Nat} {W : World} {g cap : Nat} {bs : List Bool} (h : W.ownsRow base 4 1 (.slice (some ⟨g, 0, none⟩) bs.length cap) bs.length (bs.map fun b => .bool b)) : ∃ cur : Array Value, W.heap[g]? = some (.cells cur 4 (0, 0)) ∧ base ≤ g ∧ bs.length ≤ cur.size ∧ ∀ k (hk : k < bs.length), cur[k]? = some (.bool bs[k]) := by
  obtain ⟨hl, ⟨e, _⟩ | ⟨g', cap', cur, e, hbg, hg, hnc, hcm, hcs, htake⟩⟩ := h
  · cases e
  simp only [Value.slice.injEq, Option.some.injEq, Addr.mk.injEq, and_true, true_and] at e
  obtain ⟨rfl, rfl⟩ := e
  refine ⟨cur, hg, hbg, by omega, fun k hk => ?_⟩
  have h1 : (bs.map fun b => Value.bool b)[k]? = some (.bool bs[k]) := by simp [hk]
  rw [← htake] at h1
  have := List.getElem?_take (l := cur.toList) (i := bs.length * 1) (j := k)
  rw [h1] at this
  split at this
  · simpa using this.symm
  · cases this
theorem set_mono (al : List Bool) (n k : Nat) (h : al.getD k false = true) : (al.set n true).getD k false = true := by
  by_cases hk : k < al.length
  · simp only [List.getD] at h ⊢
    rw [List.getElem?_set]
    by_cases e : n = k
    · subst e; simp [hk]
    · rw [if_neg e]; exact h
  · simp [List.getD, List.getElem?_eq_none (Nat.le_of_not_lt hk)] at h
end Go.Proofs.YthfoijnjgdeaaaaDoor
