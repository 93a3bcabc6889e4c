/- The law PlaceDown: its pieces. -/
import Derived.Test.YthfoijnjgdeaaaaDoorClaimsWalk
import Derived.Test.YthfoijnjgdeaaaaDoorPpPqPr
namespace Go.Proofs.YthfoijnjgdeaaaaDoor
open Go.Shelf Go.RowKit Go.Lib Go.Sort
set_option linter.unusedVariables false
set_option linter.unusedSimpArgs false
theorem liveL_nil (zs : List Int) : liveL [] zs = [] := by
  unfold liveL
  rw [List.filter_eq_nil_iff]
  intro z _
  simp [aliveB]
theorem alive_mono {al bl : List Bool} (h : ∀ k, al.getD k false = true → bl.getD k false = true) (z : Int) (hz : aliveB al z = true) : aliveB bl z = true := h _ hz
theorem allLive_mono {al bl : List Bool} (h : ∀ k, al.getD k false = true → bl.getD k false = true) (os : List (List Int)) (ha : allLive al os = true) : allLive bl os = true := by
  unfold allLive at ha ⊢
  rw [List.all_eq_true] at ha ⊢
  intro zs hz
  have h1 := ha zs hz
  simp only [decide_eq_true_eq] at h1 ⊢
  obtain ⟨z, hzm⟩ := List.exists_mem_of_ne_nil _ h1
  intro e
  have h2 := List.mem_filter.1 hzm
  have h3 : z ∈ liveL bl zs := List.mem_filter.2 ⟨h2.1, alive_mono h z h2.2⟩
  rw [e] at h3
  cases h3
theorem pkE_mono {N S R : Int} {nm : ByteArray} {cs : List Col} {os : List (List Int)} {al bl : List Bool} (h : ∀ k, al.getD k false = true → bl.getD k false = true) (h0 : pkE N S R nm cs os al = 0) : pkE N S R nm cs os bl = 0 := by
  unfold pkE at h0 ⊢
  by_cases hc : claimE N S R nm cs os = 0
  · rw [if_pos hc] at h0 ⊢
    by_cases ha : allLive al os = true
    · rw [if_pos (allLive_mono h os ha)]
    · rw [if_neg ha] at h0; cases h0
  · rw [if_neg hc] at h0; exact absurd h0 hc
theorem pkE_nil (N S R : Int) (nm : ByteArray) (cs : List Col) (os : List (List Int)) : pkE N S R nm cs os [] ≠ 0 := by
  intro h0
  unfold pkE at h0
  by_cases hc : claimE N S R nm cs os = 0
  · rw [if_pos hc] at h0
    by_cases ha : allLive [] os = true
    · obtain ⟨hl, hS, _⟩ := claimE_ok hc
      obtain ⟨_, _, k3, _⟩ := layE_zero.1 hl
      have hne : os ≠ [] := fun e => by rw [e] at hS; simp at hS; omega
      obtain ⟨zs, hz⟩ := List.exists_mem_of_ne_nil _ hne
      have := List.all_eq_true.1 ha zs hz
      simp [liveL_nil] at this
    · rw [if_neg ha] at h0; cases h0
  · rw [if_neg hc] at h0; exact absurd h0 hc
/-- Who is picked is a worker, and alive. -/
theorem zsP_ok {N S R : Int} {nm : ByteArray} {cs : List Col} {os : List (List Int)} {al : List Bool} : ∀ z ∈ zsP N S R nm cs os al, ∃ y : Nat, z = (y : Int) ∧ 1 ≤ y ∧ ∃ h : y < al.length, al[y] = true := by
  intro z hz
  unfold zsP at hz
  by_cases h0 : pkE N S R nm cs os al = 0
  · rw [if_pos h0] at hz
    have h1 : claimE N S R nm cs os = 0 ∧ allLive al os = true := by
      unfold pkE at h0
      by_cases hc : claimE N S R nm cs os = 0
      · rw [if_pos hc] at h0
        by_cases ha : allLive al os = true
        · exact ⟨hc, ha⟩
        · rw [if_neg ha] at h0; cases h0
      · rw [if_neg hc] at h0; exact absurd h0 hc
    obtain ⟨_, _, hos⟩ := claimE_ok h1.1
    simp only [pks, List.mem_map, List.mem_range] at hz
    obtain ⟨j, hj, rfl⟩ := hz
    have hm : os[j] ∈ os := List.getElem_mem hj
    have hl := List.all_eq_true.1 h1.2 _ hm
    simp only [decide_eq_true_eq] at hl
    have ei : os.getD j [] = os[j] := by simp [List.getD, hj]
    have hpos : 0 < (liveL al os[j]).length := List.length_pos_iff.2 hl
    have hmod : j % (liveL al os[j]).length < (liveL al os[j]).length := Nat.mod_lt _ hpos
    have hpk : pk al os j ∈ liveL al os[j] := by
      unfold pk
      rw [ei]
      simp only [List.getD, List.getElem?_eq_getElem hmod, Option.getD_some]
      exact List.getElem_mem hmod
    obtain ⟨h2, h3⟩ := List.mem_filter.1 hpk
    obtain ⟨h4, _⟩ := (hos _ hm).1 _ h2
    refine ⟨(pk al os j).toNat, by omega, by omega, ?_⟩
    unfold aliveB at h3
    by_cases hy : (pk al os j).toNat < al.length
    · exact ⟨hy, by simpa [List.getD, hy] using h3⟩
    · simp [List.getD, List.getElem?_eq_none (Nat.le_of_not_lt hy)] at h3
  · rw [if_neg h0] at hz; cases hz
theorem info4 : ∃ i0, Tryd.prog.info? 4 = some i0 ∧ i0.zero = some (.bool false) ∧ i0.size = 1 ∧ i0.bytes = 1 := by
  have h1 : (Tryd.prog.info? 4).bind (·.zero) = some (.bool false) := by kernel_rfl
  have h2 : (Tryd.prog.info? 4).map (·.size) = some 1 := by kernel_rfl
  have h3 : (Tryd.prog.info? 4).map (·.bytes) = some 1 := by kernel_rfl
  generalize Tryd.prog.info? 4 = i at *
  cases i with
  | none => cases h1
  | some i => exact ⟨i, rfl, h1, Option.some.inj h2, Option.some.inj h3⟩
theorem pkE_zero {N S R : Int} {nm : ByteArray} {cs : List Col} {os : List (List Int)} {al : List Bool} (h : pkE N S R nm cs os al ≠ 0) : zsP N S R nm cs os al = [] := by unfold zsP; rw [if_neg h]
end Go.Proofs.YthfoijnjgdeaaaaDoor
/- The law PlaceOwners: what is known of owners and of those that are picked. -/
namespace Go.Proofs.YthfoijnjgdeaaaaDoor
open Go.Shelf Go.RowKit Go.Lib Go.Sort
set_option linter.unusedVariables false
set_option linter.unusedSimpArgs false
theorem oA_strict : ∀ m : Fin 8, ∀ R : Fin 8, ∀ sh : Fin 8, R.1 ≤ m.1 → (oA (m.1 : Int) (sh.1 : Int) R.1 m.1).length = R.1 ∧ (oA (m.1 : Int) (sh.1 : Int) R.1 m.1).Pairwise (fun x y => x < y) ∧ ∀ z ∈ oA (m.1 : Int) (sh.1 : Int) R.1 m.1, 1 ≤ z ∧ z ≤ (m.1 : Int) := by decide +kernel
/-- Owners are workers, as many as there are replicas, rising. -/
theorem zsO_ok {N S R sh : Int} (h : ownE N S R sh = 0) : ((zsO N S R sh).length : Int) = R ∧ (∀ z ∈ zsO N S R sh, 1 ≤ z ∧ z < N) ∧ (zsO N S R sh).Pairwise (fun x y => x < y) := by
  obtain ⟨h0, hr⟩ := ownE_lay h
  obtain ⟨k1, k2, k3, k4, k5, k6⟩ := layE_zero.1 h0
  obtain ⟨R', rfl⟩ : ∃ R' : Nat, R = (R' : Int) := ⟨R.toNat, by omega⟩
  obtain ⟨s, rfl⟩ : ∃ s : Nat, sh = (s : Int) := ⟨sh.toNat, by omega⟩
  obtain ⟨m, rfl⟩ : ∃ m : Nat, N = (m : Int) + 1 := ⟨(N - 1).toNat, by omega⟩
  have e := oA_sorted ((m : Int) + 1) S R' (s : Int) m rfl h0 hr
  have h2 := oA_strict ⟨m, by omega⟩ ⟨R', by omega⟩ ⟨s, by omega⟩ (by show R' ≤ m; omega)
  simp only at h2
  unfold zsO
  rw [if_pos h, Int.toNat_natCast, ← e, show (m : Int) + 1 - 1 = (m : Int) by omega]
  exact ⟨by rw [h2.1], fun z hz => by have := h2.2.2 z hz; omega, h2.2.1⟩
/-- Who is picked owns its shard, and is alive. -/
theorem zsP_at {N S R : Int} {nm : ByteArray} {cs : List Col} {os : List (List Int)} {al : List Bool} (h0 : pkE N S R nm cs os al = 0) : (zsP N S R nm cs os al).length = os.length ∧ (os.length : Int) = S ∧ os.length ≤ 8 ∧ ∀ s (hs : s < os.length) (hz : s < (zsP N S R nm cs os al).length), ∃ y : Nat, (zsP N S R nm cs os al)[s] = (y : Int) ∧ (∃ h : y < al.length, al[y] = true) ∧ (y : Int) ∈ os[s] ∧ 0 < (liveL al os[s]).length ∧ (∀ z ∈ os[s], 0 ≤ z) ∧ os[s].length ≤ 7 := by
  have h1 : claimE N S R nm cs os = 0 ∧ allLive al os = true := by
    unfold pkE at h0
    by_cases hc : claimE N S R nm cs os = 0
    · rw [if_pos hc] at h0
      by_cases ha : allLive al os = true
      · exact ⟨hc, ha⟩
      · rw [if_neg ha] at h0; cases h0
    · rw [if_neg hc] at h0; exact absurd h0 hc
  obtain ⟨hl0, hS, hos⟩ := claimE_ok h1.1
  obtain ⟨k1, k2, k3, k4, k5, k6⟩ := layE_zero.1 hl0
  have ez : zsP N S R nm cs os al = pks al os os.length := by unfold zsP; rw [if_pos h0]
  refine ⟨by rw [ez, pks_len], hS, by omega, fun s hs hz => ?_⟩
  have hm : os[s] ∈ os := List.getElem_mem hs
  have hl := List.all_eq_true.1 h1.2 _ hm
  simp only [decide_eq_true_eq] at hl
  have ei : os.getD s [] = os[s] := by simp [List.getD, hs]
  have hpos : 0 < (liveL al os[s]).length := List.length_pos_iff.2 hl
  have hmod : s % (liveL al os[s]).length < (liveL al os[s]).length := Nat.mod_lt _ hpos
  have hpk : pk al os s ∈ liveL al os[s] := by
    unfold pk
    rw [ei]
    simp only [List.getD, List.getElem?_eq_getElem hmod, Option.getD_some]
    exact List.getElem_mem hmod
  have eg : (zsP N S R nm cs os al)[s] = pk al os s := by simp [ez, pks]
  obtain ⟨h2, h3⟩ := List.mem_filter.1 hpk
  obtain ⟨h4, h5⟩ := hos _ hm
  have h6 := h4 _ h2
  refine ⟨(pk al os s).toNat, by omega, ?_, by rw [Int.toNat_of_nonneg (by omega)]; exact h2, hpos, fun z hz => by have := h4 z hz; omega, h5⟩
  unfold aliveB at h3
  by_cases hy : (pk al os s).toNat < al.length
  · exact ⟨hy, by simpa [List.getD, hy] using h3⟩
  · simp [List.getD, List.getElem?_eq_none (Nat.le_of_not_lt hy)] at h3
end Go.Proofs.YthfoijnjgdeaaaaDoor
