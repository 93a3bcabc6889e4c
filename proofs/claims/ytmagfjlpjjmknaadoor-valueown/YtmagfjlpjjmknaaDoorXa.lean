/- Rows in order, those alike as they came: there is just one such list. -/
import Derived.Test.YtmagfjlpjjmknaaDoorCRows
import Derived.Test.YtmagfjlpjjmknaaDoorSk
namespace Go.Proofs.YtmagfjlpjjmknaaDoor
open Go.Shelf Go.RowKit Go.Lib Go.Sort
set_option linter.unusedVariables false
set_option linter.unusedSimpArgs false

theorem PC.self {α : Type} {cf : α → α → Int} (h : PC cf) (x : α) : cf x x = 0 := by have := h.anti x x; omega
theorem PC.both {α : Type} {cf : α → α → Int} (h : PC cf) {x y z : α} (h1 : cf x y = 0) (h2 : cf y z = 0) : cf x z = 0 := by
  have a1 := h.anti x y
  have a2 := h.anti y z
  have a3 := h.anti x z
  have t1 := (h.trans x y z (by omega) (by omega)).1
  have t2 := (h.trans z y x (by omega) (by omega)).1
  omega
theorem lexBy_low {α : Type} {cf : α → α → Int} (h : PC cf) : ∀ a b : List α, -1 ≤ lexBy cf a b
  | [], [] => by simp [lexBy]
  | [], _ :: _ => by simp [lexBy]
  | _ :: _, [] => by simp [lexBy]
  | x :: a, y :: b => by
    have := lexBy_low h a b
    have := h.low x y
    unfold lexBy
    split <;> assumption
theorem lexBy_anti {α : Type} {cf : α → α → Int} (h : PC cf) : ∀ a b : List α, lexBy cf b a = - lexBy cf a b
  | [], [] => rfl
  | [], _ :: _ => rfl
  | _ :: _, [] => rfl
  | x :: a, y :: b => by
    have ih := lexBy_anti h a b
    have h1 := h.anti x y
    unfold lexBy
    by_cases e : cf x y = 0
    · rw [if_pos e, if_pos (by omega), ih]
    · rw [if_neg e, if_neg (by omega), h1]
theorem lexBy_trans {α : Type} {cf : α → α → Int} (h : PC cf) : ∀ a b c : List α, lexBy cf a b ≤ 0 → lexBy cf b c ≤ 0 → lexBy cf a c ≤ 0 ∧ (lexBy cf a c = 0 → lexBy cf a b = 0 ∧ lexBy cf b c = 0)
  | [], [], [], _, _ => ⟨by simp [lexBy], fun _ => ⟨rfl, rfl⟩⟩
  | [], [], _ :: _, _, _ => ⟨by simp [lexBy], fun e => by simp [lexBy] at e⟩
  | [], _ :: _, [], _, h2 => by simp [lexBy] at h2
  | [], _ :: _, _ :: _, _, _ => ⟨by simp [lexBy], fun e => by simp [lexBy] at e⟩
  | _ :: _, [], _, h1, _ => by simp [lexBy] at h1
  | _ :: _, _ :: _, [], _, h2 => by simp [lexBy] at h2
  | x :: a, y :: b, z :: c, h1, h2 => by
    have ih := lexBy_trans h a b c
    unfold lexBy at h1 h2 ⊢
    have k1 : cf x y ≤ 0 := by
      by_cases e : cf x y = 0
      · omega
      · rw [if_neg e] at h1; exact h1
    have k2 : cf y z ≤ 0 := by
      by_cases e : cf y z = 0
      · omega
      · rw [if_neg e] at h2; exact h2
    obtain ⟨t1, t2⟩ := h.trans x y z k1 k2
    by_cases e : cf x z = 0
    · obtain ⟨e1, e2⟩ := t2 e
      rw [if_pos e, if_pos e1, if_pos e2]
      rw [if_pos e1] at h1
      rw [if_pos e2] at h2
      exact ih h1 h2
    · rw [if_neg e]
      exact ⟨t1, fun h0 => absurd h0 e⟩
theorem PC.list {α : Type} {cf : α → α → Int} (h : PC cf) : PC (lexBy cf) := ⟨lexBy_anti h, lexBy_trans h, lexBy_low h⟩
/-- The order of rows. -/
def cmpR : List Val → List Val → Int := lexBy cmpV
theorem pc_row : PC cmpR := pc_val.list
theorem swo_pc {α β : Type} {cf : α → α → Int} (m : β → α) (h : PC cf) : SWO (ltOf fun x y : β => cf (m x) (m y)) where
  irrefl x := by simp [ltOf, h.self]
  trans x y z h1 h2 := by
    simp only [ltOf, decide_eq_true_eq] at *
    obtain ⟨t1, t2⟩ := h.trans (m x) (m y) (m z) (by omega) (by omega)
    have : cf (m x) (m z) ≠ 0 := fun e => by have := t2 e; omega
    omega
  ntrans x y z h1 h2 := by
    simp only [ltOf, decide_eq_false_iff_not] at *
    have a1 := h.anti (m x) (m y)
    have a2 := h.anti (m y) (m z)
    have a3 := h.anti (m x) (m z)
    have := (h.trans (m z) (m y) (m x) (by omega) (by omega)).1
    omega
/-- The order of places: by what stands there, those alike by the place. -/
def cT (cf : Nat → Nat → Int) (i j : Nat) : Int := if cf i j = 0 then cmpI (i : Int) (j : Int) else cf i j
theorem tc_cT {cf : Nat → Nat → Int} (h : PC cf) : TC (cT cf) where
  zero i j := by
    unfold cT
    by_cases e : cf i j = 0
    · rw [if_pos e, tc_int.zero]; omega
    · rw [if_neg e]
      constructor
      · intro e'; exact absurd e' e
      · rintro rfl; exact absurd (h.self i) e
  anti i j := by
    unfold cT
    have := h.anti i j
    by_cases e : cf i j = 0
    · rw [if_pos e, if_pos (by omega), tc_int.anti]
    · rw [if_neg e, if_neg (by omega), this]
  trans i j k h1 h2 := by
    unfold cT at *
    have k1 : cf i j ≤ 0 := by
      by_cases e : cf i j = 0
      · omega
      · rw [if_neg e] at h1; omega
    have k2 : cf j k ≤ 0 := by
      by_cases e : cf j k = 0
      · omega
      · rw [if_neg e] at h2; omega
    obtain ⟨t1, t2⟩ := h.trans i j k k1 k2
    by_cases e : cf i k = 0
    · obtain ⟨e1, e2⟩ := t2 e
      rw [if_pos e1] at h1
      rw [if_pos e2] at h2
      rw [if_pos e]
      exact tc_int.trans _ _ _ h1 h2
    · rw [if_neg e]; omega
theorem tlt_cT {cf : Nat → Nat → Int} (h : PC cf) (i j : Nat) : tlt (ltOf cf) id i j = true ↔ cT cf i j < 0 := by
  rw [tlt_true]
  unfold cT ltOf
  have := h.anti i j
  by_cases e : cf i j = 0
  · rw [if_pos e]
    simp only [e, decide_eq_true_eq, decide_eq_false_iff_not, id]
    unfold cmpI
    constructor
    · rintro (h | ⟨_, h⟩)
      · omega
      · rw [if_pos (by omega)]; omega
    · intro h2
      refine .inr ⟨by omega, ?_⟩
      by_cases h3 : (i : Int) < (j : Int)
      · omega
      · rw [if_neg h3] at h2
        split at h2 <;> omega
  · rw [if_neg e]
    simp only [decide_eq_true_eq, decide_eq_false_iff_not]
    constructor
    · rintro (h | ⟨h1, _⟩)
      · exact h
      · omega
    · intro h; exact .inl h
/-- The places of rows, held against each other. -/
def cI (rs : List (List Val)) (i j : Nat) : Int := cmpR rs[i]! rs[j]!
theorem pc_cI (rs : List (List Val)) : PC (cI rs) := ⟨fun _ _ => pc_row.anti _ _, fun _ _ _ => pc_row.trans _ _ _, fun _ _ => pc_row.low _ _⟩
/-- The first k rows in order, those alike as they came. -/
def IsSort (rs : List (List Val)) (k : Nat) (out : List (List Val)) : Prop :=
  ∃ d : List Nat, d.Perm (List.range k) ∧ d.Pairwise (fun a b => ¬ cT (cI rs) b a < 0) ∧ out = d.map fun i => rs[i]!
theorem IsSort.one {rs : List (List Val)} {k : Nat} {a b : List (List Val)} (ha : IsSort rs k a) (hb : IsSort rs k b) : a = b := by
  obtain ⟨d, p, s, rfl⟩ := ha
  obtain ⟨d', p', s', rfl⟩ := hb
  rw [sorted_one (tc_cT (pc_cI rs)) d d' s s' (p.trans p'.symm)]
theorem IsSort.start (rs : List (List Val)) : IsSort rs 0 [] := ⟨[], by simp, by simp, rfl⟩
theorem map_range (rs : List (List Val)) : (List.range rs.length).map (fun i => rs[i]!) = rs := by
  apply List.ext_getElem
  · simp
  · intro i h1 h2
    rw [List.getElem_map, List.getElem_range, getElem!_pos rs i h2]
theorem IsSort.length {rs : List (List Val)} {k : Nat} {out : List (List Val)} (h : IsSort rs k out) : out.length = k := by
  obtain ⟨d, p, _, rfl⟩ := h
  rw [List.length_map, p.length_eq, List.length_range]
theorem IsSort.perm {rs out : List (List Val)} (h : IsSort rs rs.length out) : out.Perm rs := by
  obtain ⟨d, p, _, rfl⟩ := h
  have := p.map fun i => rs[i]!
  rwa [map_range] at this
theorem cT_cr {rs : List (List Val)} {a b : Nat} (h : ¬ cT (cI rs) b a < 0) : cmpR rs[a]! rs[b]! ≤ 0 := by
  have := (pc_cI rs).anti b a
  unfold cT at h
  by_cases e : cI rs b a = 0
  · show cI rs a b ≤ 0
    omega
  · rw [if_neg e] at h
    show cI rs a b ≤ 0
    omega
theorem IsSort.sorted {rs : List (List Val)} {k : Nat} {out : List (List Val)} (h : IsSort rs k out) : out.Pairwise (fun a b => cmpR a b ≤ 0) := by
  obtain ⟨d, _, s, rfl⟩ := h
  rw [List.pairwise_map]
  exact s.imp fun h => cT_cr h
theorem IsSort.self {rs : List (List Val)} (h : rs.Pairwise (fun a b => cmpR a b ≤ 0)) : IsSort rs rs.length rs := by
  refine ⟨List.range rs.length, List.Perm.refl _, ?_, (map_range rs).symm⟩
  rw [List.pairwise_iff_getElem] at h ⊢
  intro i j hi hj hij
  simp only [List.length_range] at hi hj
  simp only [List.getElem_range]
  have h1 := h i j hi hj hij
  have h2 := pc_row.anti rs[i] rs[j]
  unfold cT cI
  rw [getElem!_pos rs i hi, getElem!_pos rs j hj]
  split
  · unfold cmpI
    rw [if_neg (by omega), if_pos (by omega)]
    omega
  · omega
/-- One row more, from behind. -/
theorem IsSort.step {rs : List (List Val)} {k at' : Nat} {out : List (List Val)} (h : IsSort rs k out) (hat : at' ≤ out.length) (hu : ∀ i (hi : i < out.length), at' ≤ i → 0 < cmpR out[i] rs[k]!)
    (hd : ∀ hi : at' - 1 < out.length, 0 < at' → ¬ 0 < cmpR out[at' - 1] rs[k]!) : IsSort rs (k + 1) (out.take at' ++ rs[k]! :: out.drop at') := by
  obtain ⟨d, p, s, rfl⟩ := h
  rw [List.length_map] at hat
  have hm : ∀ x ∈ d, x < k := fun x hx => by simpa using p.subset hx
  refine ⟨d.take at' ++ k :: d.drop at', ?_, ?_, ?_⟩
  · rw [List.range_succ]
    refine List.perm_middle.trans ?_
    rw [List.take_append_drop]
    exact (List.Perm.cons k p).trans (List.perm_append_singleton k _).symm
  · have s0 := s
    rw [← List.take_append_drop at' d, List.pairwise_append] at s
    rw [List.pairwise_append]
    refine ⟨s.1, ?_, ?_⟩
    · rw [List.pairwise_cons]
      refine ⟨fun y hy => ?_, s.2.1⟩
      obtain ⟨i, hi, rfl⟩ := List.getElem_of_mem hy
      rw [List.getElem_drop]
      rw [List.length_drop] at hi
      have := hu (at' + i) (by rw [List.length_map]; omega) (by omega)
      rw [List.getElem_map] at this
      unfold cT
      have h0 : 0 < cI rs d[at' + i] k := this
      rw [if_neg (by omega)]
      omega
    · intro x hx y hy
      rcases List.mem_cons.1 hy with rfl | hy
      · obtain ⟨i, hi, rfl⟩ := List.getElem_of_mem hx
        rw [List.length_take] at hi
        rw [List.getElem_take]
        have hi' : i < d.length := by omega
        have hl : cI rs d[i] y ≤ 0 := by
          have hz := hd (by rw [List.length_map]; omega) (by omega)
          rw [List.getElem_map] at hz
          have hz' : cI rs (d[at' - 1]'(by omega)) y ≤ 0 := by
            have hz2 : ¬ 0 < cI rs (d[at' - 1]'(by omega)) y := hz
            omega
          by_cases e : i = at' - 1
          · subst e; exact hz'
          · rw [List.pairwise_iff_getElem] at s0
            have := s0 i (at' - 1) hi' (by omega) (by omega)
            exact ((pc_cI rs).trans _ _ _ (cT_cr this) hz').1
        have ha := (pc_cI rs).anti d[i] y
        unfold cT
        by_cases e : cI rs y d[i] = 0
        · rw [if_pos e]
          have := hm d[i] (List.getElem_mem hi')
          unfold cmpI
          rw [if_neg (by omega), if_pos (by omega)]
          omega
        · rw [if_neg e]; omega
      · exact s.2.2 x hx y hy
  · simp [List.map_take, List.map_drop]
end Go.Proofs.YtmagfjlpjjmknaaDoor
