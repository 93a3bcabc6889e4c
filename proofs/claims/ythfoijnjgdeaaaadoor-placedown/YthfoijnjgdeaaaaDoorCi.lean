/- The law PlaceDown: its pieces. -/
import Derived.Test.YthfoijnjgdeaaaaDoorClaimsWalk
namespace Go.Proofs.YthfoijnjgdeaaaaDoor
open Go.Shelf Go.RowKit Go.Lib Go.Sort
set_option linter.unusedVariables false
set_option linter.unusedSimpArgs false
theorem liveL_nil (zs : List Int) : liveL [] zs = [] := by
  unfold liveL
  rw [List.filter_eq_nil_iff]
  intro z _
  simp [aliveB]
theorem alive_mono {al bl : List Bool} (h : ∀ k, al.getD k false = true → bl.getD k false = true) (z : Int) (hz : aliveB al z = true) : aliveB bl z = true := h _ hz
theorem allLive_mono {al bl : List Bool} (h : ∀ k, al.getD k false = true → bl.getD k false = true) (os : List (List Int)) (ha : allLive al os = true) : allLive bl os = true := by
  unfold allLive at ha ⊢
  rw [List.all_eq_true] at ha ⊢
  intro zs hz
  have h1 := ha zs hz
  simp only [decide_eq_true_eq] at h1 ⊢
  obtain ⟨z, hzm⟩ := List.exists_mem_of_ne_nil _ h1
  intro e
  have h2 := List.mem_filter.1 hzm
  have h3 : z ∈ liveL bl zs := List.mem_filter.2 ⟨h2.1, alive_mono h z h2.2⟩
  rw [e] at h3
  cases h3
theorem pkE_mono {N S R : Int} {nm : ByteArray} {cs : List Col} {os : List (List Int)} {al bl : List Bool} (h : ∀ k, al.getD k false = true → bl.getD k false = true) (h0 : pkE N S R nm cs os al = 0) : pkE N S R nm cs os bl = 0 := by
  unfold pkE at h0 ⊢
  by_cases hc : claimE N S R nm cs os = 0
  · rw [if_pos hc] at h0 ⊢
    by_cases ha : allLive al os = true
    · rw [if_pos (allLive_mono h os ha)]
    · rw [if_neg ha] at h0; cases h0
  · rw [if_neg hc] at h0; exact absurd h0 hc
theorem pkE_nil (N S R : Int) (nm : ByteArray) (cs : List Col) (os : List (List Int)) : pkE N S R nm cs os [] ≠ 0 := by
  intro h0
  unfold pkE at h0
  by_cases hc : claimE N S R nm cs os = 0
  · rw [if_pos hc] at h0
    by_cases ha : allLive [] os = true
    · obtain ⟨hl, hS, _⟩ := claimE_ok hc
      obtain ⟨_, _, k3, _⟩ := layE_zero.1 hl
      have hne : os ≠ [] := fun e => by rw [e] at hS; simp at hS; omega
      obtain ⟨zs, hz⟩ := List.exists_mem_of_ne_nil _ hne
      have := List.all_eq_true.1 ha zs hz
      simp [liveL_nil] at this
    · rw [if_neg ha] at h0; cases h0
  · rw [if_neg hc] at h0; exact absurd h0 hc
/-- Who is picked is a worker, and alive. -/
theorem zsP_ok {N S R : Int} {nm : ByteArray} {cs : List Col} {os : List (List Int)} {al : List Bool} : ∀ z ∈ zsP N S R nm cs os al, ∃ y : Nat, z = (y : Int) ∧ 1 ≤ y ∧ ∃ h : y < al.length, al[y] = true := by
  intro z hz
  unfold zsP at hz
  by_cases h0 : pkE N S R nm cs os al = 0
  · rw [if_pos h0] at hz
    have h1 : claimE N S R nm cs os = 0 ∧ allLive al os = true := by
      unfold pkE at h0
      by_cases hc : claimE N S R nm cs os = 0
      · rw [if_pos hc] at h0
        by_cases ha : allLive al os = true
        · exact ⟨hc, ha⟩
        · rw [if_neg ha] at h0; cases h0
      · rw [if_neg hc] at h0; exact absurd h0 hc
    obtain ⟨_, _, hos⟩ := claimE_ok h1.1
    simp only [pks, List.mem_map, List.mem_range] at hz
    obtain ⟨j, hj, rfl⟩ := hz
    have hm : os[j] ∈ os := List.getElem_mem hj
    have hl := List.all_eq_true.1 h1.2 _ hm
    simp only [decide_eq_true_eq] at hl
    have ei : os.getD j [] = os[j] := by simp [List.getD, hj]
    have hpos : 0 < (liveL al os[j]).length := List.length_pos_iff.2 hl
    have hmod : j % (liveL al os[j]).length < (liveL al os[j]).length := Nat.mod_lt _ hpos
    have hpk : pk al os j ∈ liveL al os[j] := by
      unfold pk
      rw [ei]
      simp only [List.getD, List.getElem?_eq_getElem hmod, Option.getD_some]
      exact List.getElem_mem hmod
    obtain ⟨h2, h3⟩ := List.mem_filter.1 hpk
    obtain ⟨h4, _⟩ := (hos _ hm).1 _ h2
    refine ⟨(pk al os j).toNat, by omega, by omega, ?_⟩
    unfold aliveB at h3
    by_cases hy : (pk al os j).toNat < al.length
    · exact ⟨hy, by simpa [List.getD, hy] using h3⟩
    · simp [List.getD, List.getElem?_eq_none (Nat.le_of_not_lt hy)] at h3
  · rw [if_neg h0] at hz; cases hz
theorem info4 : ∃ i0, Tryd.prog.info? 4 = some i0 ∧ i0.zero = some (.bool false) ∧ i0.size = 1 ∧ i0.bytes = 1 := by
  have h1 : (Tryd.prog.info? 4).bind (·.zero) = some (.bool false) := by kernel_rfl
  have h2 : (Tryd.prog.info? 4).map (·.size) = some 1 := by kernel_rfl
  have h3 : (Tryd.prog.info? 4).map (·.bytes) = some 1 := by kernel_rfl
  generalize Tryd.prog.info? 4 = i at *
  cases i with
  | none => cases h1
  | some i => exact ⟨i, rfl, h1, Option.some.inj h2, Option.some.inj h3⟩
theorem pkE_zero {N S R : Int} {nm : ByteArray} {cs : List Col} {os : List (List Int)} {al : List Bool} (h : pkE N S R nm cs os al ≠ 0) : zsP N S R nm cs os al = [] := by unfold zsP; rw [if_neg h]
end Go.Proofs.YthfoijnjgdeaaaaDoor
