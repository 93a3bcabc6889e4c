/- Stable sorting, over arrays: elements that bear their first places; blocks. No walk stands in this text. -/
import Derived.Test.YtmagfjlpjjmknaaDoorSa
namespace Go.Proofs.YtmagfjlpjjmknaaDoor
open Go.Sort
set_option linter.unusedVariables false
set_option linter.unusedSectionVars false
variable {α : Type} [Inhabited α]
/-- Less, or alike and from an earlier place. -/
def tlt (lt : α → α → Bool) (tag : α → Nat) (x y : α) : Bool := lt x y || (!lt y x && decide (tag x < tag y))
variable {lt : α → α → Bool} {tag : α → Nat}
theorem tlt_true {x y : α} : tlt lt tag x y = true ↔ lt x y = true ∨ (lt y x = false ∧ tag x < tag y) := by simp [tlt]
theorem tlt_false {x y : α} : tlt lt tag x y = false ↔ lt x y = false ∧ (lt y x = false → ¬ tag x < tag y) := by
  cases h1 : lt x y <;> cases h2 : lt y x <;> simp [tlt, h1, h2]
theorem tlt_swo (hS : SWO lt) : SWO (tlt lt tag) where
  irrefl x := by simp [tlt, hS.irrefl]
  trans x y z h1 h2 := by
    rw [tlt_true] at h1 h2 ⊢
    cases hxz : lt x z with
    | true => exact .inl rfl
    | false =>
      right
      rcases h1 with h1 | ⟨h1, t1⟩
      · rcases h2 with h2 | ⟨h2, t2⟩
        · rw [hS.trans x y z h1 h2] at hxz; cases hxz
        · rw [hS.ntrans x z y hxz h2] at h1; cases h1
      · rcases h2 with h2 | ⟨h2, t2⟩
        · rw [hS.ntrans y x z h1 hxz] at h2; cases h2
        · exact ⟨hS.ntrans z y x h2 h1, by omega⟩
  ntrans x y z h1 h2 := by
    rw [tlt_false] at h1 h2 ⊢
    refine ⟨hS.ntrans x y z h1.1 h2.1, fun hzx => ?_⟩
    have a1 : lt y x = false := hS.ntrans y z x h2.1 hzx
    have a2 : lt z y = false := hS.ntrans z x y hzx h1.1
    have := h1.2 a1
    have := h2.2 a2
    omega
theorem tlt_agree {x y : α} (h : tag x < tag y) : tlt lt tag y x = lt y x := by
  have : ¬ tag y < tag x := by omega
  simp [tlt, this]
/-! ### Insertion -/
theorem insInner_perm (lt : α → α → Bool) (a : Nat) : ∀ (j : Nat) (d : Array α), a ≤ j → j < d.size → PermIn a (j + 1) d (insInner lt a j d)
  | 0, d, _, _ => permIn_refl _ _ _
  | j + 1, d, h, hj => by
    unfold insInner
    split
    · rename_i hc
      simp only [Bool.and_eq_true, decide_eq_true_eq, gt_iff_lt] at hc
      have h1 := swp_permIn d a (j + 1 + 1) (j + 1) j (by omega) (by omega) (by omega) (by omega) (by omega)
      have h2 := insInner_perm lt a j (swp d (j + 1) j) (by omega) (by rw [swp_size]; omega)
      exact permIn_trans _ _ _ _ _ h1 (permIn_mono _ _ _ _ _ _ (Nat.le_refl _) (by omega) (by rw [swp_size]; omega) h2)
    · exact permIn_refl _ _ _
theorem insInner_tag (a : Nat) : ∀ (j : Nat) (d : Array α), j < d.size → (∀ k, a ≤ k → k < j → tag d[k]! < tag d[j]!) → insInner lt a j d = insInner (tlt lt tag) a j d
  | 0, d, _, _ => rfl
  | j + 1, d, hj, h => by
    by_cases haj : j + 1 > a
    · have e := tlt_agree (lt := lt) (h j (by omega) (by omega))
      unfold insInner
      rw [e]
      split
      · refine insInner_tag a j _ (by rw [swp_size]; omega) fun k h1 h2 => ?_
        rw [swp_get _ hj (by omega), swp_get _ hj (by omega), if_neg (by omega), if_neg (by omega), if_pos rfl]
        exact h k h1 (by omega)
      · rfl
    · unfold insInner
      simp [haj]
theorem insOuter_tag (a b : Nat) : ∀ (n i : Nat) (d : Array α), b - i ≤ n → a < i → b ≤ d.size → (∀ k l, a ≤ k → k < l → i ≤ l → l < b → tag d[k]! < tag d[l]!) → insOuter lt a b i d = insOuter (tlt lt tag) a b i d
  | 0, i, d, hn, _, _, _ => by
    unfold insOuter
    rw [if_neg (by omega), if_neg (by omega)]
  | n + 1, i, d, hn, hi, hb, h => by
    by_cases hib : i < b
    · rw [insOuter, if_pos hib]
      conv => rhs; rw [insOuter, if_pos hib]
      rw [insInner_tag (tag := tag) a i d (by omega) fun k h1 h2 => h k i h1 h2 (Nat.le_refl _) hib]
      have hP := insInner_perm (tlt lt tag) a i d (by omega) (by omega)
      refine insOuter_tag a b n (i + 1) _ (by omega) (by omega) (by rw [hP.1]; exact hb) fun k l h1 h2 h3 h4 => ?_
      rw [hP.2.1 l (.inr (by omega))]
      by_cases hk : k < i + 1
      · exact permIn_all d _ a (i + 1) (fun x => tag x < tag d[l]!) (by omega) hP (fun q h5 h6 => h q l h5 (by omega) (by omega) h4) k h1 hk
      · rw [hP.2.1 k (.inr (by omega))]
        exact h k l h1 h2 (by omega) h4
    · unfold insOuter
      rw [if_neg hib, if_neg hib]
/-- Insertion keeps what is alike as it came. -/
theorem insertion_tag (hS : SWO lt) (d : Array α) (a b : Nat) (hab : a ≤ b) (hb : b ≤ d.size) (h : ∀ k l, a ≤ k → k < l → l < b → tag d[k]! < tag d[l]!) :
    PermIn a b d (insertionSort lt d a b) ∧ SortedIn (tlt lt tag) a b (insertionSort lt d a b) := by
  have e : insertionSort lt d a b = insertionSort (tlt lt tag) d a b := by
    unfold insertionSort
    exact insOuter_tag a b (b - (a + 1)) (a + 1) d (Nat.le_refl _) (by omega) hb fun k l h1 h2 _ h4 => h k l h1 h2 h4
  rw [e]
  exact insertionSort_holds (tlt_swo hS) d a b hab hb
/-! ### Blocks -/
/-- What lies behind a place came later than what lies ahead of it. -/
def Bound (tag : α → Nat) (n p : Nat) (d : Array α) : Prop := ∀ i j, i < p → p ≤ j → j < n → tag d[i]! < tag d[j]!
theorem bound_perm {a b n p : Nat} {d d1 : Array α} (hb : b ≤ d.size) (hbn : b ≤ n) (hP : PermIn a b d d1) (h : p ≤ a ∨ b ≤ p) (hB : Bound tag n p d) : Bound tag n p d1 := by
  intro i j hi hj hjn
  rcases h with h | h
  · rw [hP.2.1 i (.inl (by omega))]
    by_cases hin : a ≤ j ∧ j < b
    · exact permIn_all d d1 a b (fun x => tag d[i]! < tag x) hb hP (fun k h1 h2 => hB i k hi (by omega) (by omega)) j hin.1 hin.2
    · rw [hP.2.1 j (by omega)]; exact hB i j hi hj hjn
  · rw [hP.2.1 j (.inr (by omega))]
    by_cases hin : a ≤ i ∧ i < b
    · exact permIn_all d d1 a b (fun x => tag x < tag d[j]!) hb hP (fun k h1 h2 => hB k j (by omega) hj hjn) i hin.1 hin.2
    · rw [hP.2.1 i (by omega)]; exact hB i j hi hj hjn
theorem agree_bound {a m b n : Nat} {d : Array α} (h : Bound tag n m d) (hb : b ≤ n) : Agree lt (tlt lt tag) a m b d := fun i j _ h2 h3 h4 => (tlt_agree (h i j h2 h3 (by omega))).symm
theorem sorted_off {a b c e : Nat} {d d1 : Array α} {lt' : α → α → Bool} (hP : PermIn a b d d1) (h : e ≤ a ∨ b ≤ c) (hs : SortedIn lt' c e d) : SortedIn lt' c e d1 :=
  sorted_congr hs fun k h1 h2 => hP.2.1 k (by omega)
/-- So many blocks of twenty are sorted. -/
def Ins1 (lt : α → α → Bool) (tag : α → Nat) (n t : Nat) (d : Array α) : Prop :=
  (∀ s, s < t → SortedIn (tlt lt tag) (s * 20) ((s + 1) * 20) d) ∧ (∀ s, s ≤ t → Bound tag n (s * 20) d) ∧ ∀ i j, t * 20 ≤ i → i < j → j < n → tag d[i]! < tag d[j]!
theorem ins1_start {n : Nat} {d : Array α} (h : ∀ i j, i < j → j < n → tag d[i]! < tag d[j]!) : Ins1 lt tag n 0 d :=
  ⟨fun s hs => by omega, fun s hs i j hi hj hn => by omega, fun i j _ h1 h2 => h i j h1 h2⟩
theorem ins1_step {n t : Nat} {d d1 : Array α} (hn : n ≤ d.size) (ht : (t + 1) * 20 ≤ n) (h : Ins1 lt tag n t d) (hP : PermIn (t * 20) ((t + 1) * 20) d d1) (hs : SortedIn (tlt lt tag) (t * 20) ((t + 1) * 20) d1) : Ins1 lt tag n (t + 1) d1 := by
  obtain ⟨h1, h2, h3⟩ := h
  refine ⟨fun s hst => ?_, fun s hst => ?_, fun i j hi hij hj => ?_⟩
  · by_cases e : s = t
    · rw [e]; exact hs
    · exact sorted_off hP (.inl (by omega)) (h1 s (by omega))
  · by_cases e : s = t + 1
    · subst e
      intro i j hi hj hjn
      rw [hP.2.1 j (.inr hj)]
      by_cases hin : t * 20 ≤ i
      · exact permIn_all d d1 _ _ (fun x => tag x < tag d[j]!) (by omega) hP (fun k a1 a2 => h3 k j a1 (by omega) hjn) i hin hi
      · rw [hP.2.1 i (.inl (by omega))]
        exact h2 t (Nat.le_refl _) i j (by omega) (by omega) hjn
    · exact bound_perm (by omega) ht hP (.inl (by omega)) (h2 s (by omega))
  · rw [hP.2.1 i (.inr hi), hP.2.1 j (.inr (by omega))]
    exact h3 i j (by omega) hij hj
/-- Blocks of a size are sorted, each behind those that came earlier. -/
def Blk (lt : α → α → Bool) (tag : α → Nat) (bs n : Nat) (d : Array α) : Prop :=
  (∀ s, SortedIn (tlt lt tag) (s * bs) (min ((s + 1) * bs) n) d) ∧ ∀ s, Bound tag n (s * bs) d
theorem ins1_end {n t : Nat} {d d1 : Array α} (hn : n ≤ d.size) (ht : t * 20 ≤ n) (ht2 : n < (t + 1) * 20) (h : Ins1 lt tag n t d) (hP : PermIn (t * 20) n d d1) (hs : SortedIn (tlt lt tag) (t * 20) n d1) : Blk lt tag 20 n d1 := by
  obtain ⟨h1, h2, h3⟩ := h
  refine ⟨fun s => ?_, fun s => ?_⟩
  · by_cases e : s < t
    · rw [Nat.min_eq_left (by omega)]
      exact sorted_off hP (.inl (by omega)) (h1 s e)
    · by_cases e2 : s = t
      · subst e2
        rw [Nat.min_eq_right (by omega)]
        exact hs
      · intro i j hi hij hj
        omega
  · by_cases e : s ≤ t
    · exact bound_perm (by omega) (Nat.le_refl _) hP (.inl (by omega)) (h2 s e)
    · intro i j hi hj hjn
      omega
/-- So many pairs of blocks are merged. -/
def Mrg (lt : α → α → Bool) (tag : α → Nat) (bs n t : Nat) (d : Array α) : Prop :=
  (∀ s, s < t → SortedIn (tlt lt tag) (s * (2 * bs)) ((s + 1) * (2 * bs)) d) ∧ (∀ s, 2 * t ≤ s → SortedIn (tlt lt tag) (s * bs) (min ((s + 1) * bs) n) d) ∧ (∀ s, Bound tag n (s * (2 * bs)) d) ∧ ∀ s, 2 * t ≤ s → Bound tag n (s * bs) d
theorem two_mul_bs (t bs : Nat) : 2 * t * bs = t * (2 * bs) := by rw [Nat.mul_comm 2 t, Nat.mul_assoc]
theorem mrg_start {bs n : Nat} {d : Array α} (h : Blk lt tag bs n d) : Mrg lt tag bs n 0 d :=
  ⟨fun s hs => by omega, fun s _ => h.1 s, fun s => by rw [← two_mul_bs]; exact h.2 (2 * s), fun s _ => h.2 s⟩
/-- What a merge is told. -/
theorem mrg_two {bs n t e : Nat} {d : Array α} (h : Mrg lt tag bs n t d) (he1 : t * (2 * bs) + bs ≤ e) (he2 : e ≤ t * (2 * bs) + 2 * bs) (hen : e ≤ n) (hx : e = n ∨ e = t * (2 * bs) + 2 * bs) :
    SortedIn (tlt lt tag) (t * (2 * bs)) (t * (2 * bs) + bs) d ∧ SortedIn (tlt lt tag) (t * (2 * bs) + bs) e d ∧ Agree lt (tlt lt tag) (t * (2 * bs)) (t * (2 * bs) + bs) e d := by
  obtain ⟨_, h2, _, h4⟩ := h
  have e0 := two_mul_bs t bs
  have e1 : (2 * t + 1) * bs = t * (2 * bs) + bs := by rw [Nat.succ_mul, e0]
  have e2 : (2 * t + 1 + 1) * bs = t * (2 * bs) + 2 * bs := by rw [Nat.succ_mul, e1]; omega
  have a1 := h2 (2 * t) (Nat.le_refl _)
  have a2 := h2 (2 * t + 1) (by omega)
  have a3 := h4 (2 * t + 1) (by omega)
  rw [e1] at a1 a2 a3
  rw [e0, Nat.min_eq_left (by omega)] at a1
  rw [e2] at a2
  have em : min (t * (2 * bs) + 2 * bs) n = e := by omega
  rw [em] at a2
  exact ⟨a1, a2, agree_bound a3 hen⟩
theorem mrg_step {bs n t : Nat} {d d1 : Array α} (hn : n ≤ d.size) (ht : t * (2 * bs) + 2 * bs ≤ n) (h : Mrg lt tag bs n t d) (hP : PermIn (t * (2 * bs)) (t * (2 * bs) + 2 * bs) d d1) (hs : SortedIn (tlt lt tag) (t * (2 * bs)) (t * (2 * bs) + 2 * bs) d1) : Mrg lt tag bs n (t + 1) d1 := by
  obtain ⟨h1, h2, h3, h4⟩ := h
  have up : ∀ s, 2 * (t + 1) ≤ s → t * (2 * bs) + 2 * bs ≤ s * bs := fun s hs => by
    have := Nat.mul_le_mul_right bs hs
    rw [two_mul_bs, Nat.succ_mul] at this
    exact this
  refine ⟨fun s hst => ?_, fun s hst => ?_, fun s => ?_, fun s hst => ?_⟩
  · by_cases e : s = t
    · rw [e, Nat.succ_mul t (2 * bs)]; exact hs
    · refine sorted_off hP (.inl ?_) (h1 s (by omega))
      exact Nat.mul_le_mul_right _ (by omega)
  · exact sorted_off hP (.inr (up s hst)) (h2 s (by omega))
  · refine bound_perm (by omega) ht hP ?_ (h3 s)
    by_cases e : s ≤ t
    · exact .inl (Nat.mul_le_mul_right _ e)
    · right
      have := Nat.mul_le_mul_right (2 * bs) (show t + 1 ≤ s by omega)
      rwa [Nat.succ_mul] at this
  · exact bound_perm (by omega) ht hP (.inr (up s hst)) (h4 s (by omega))
/-- All pairs, and a last one that is shorter. -/
theorem mrg_last {bs n t : Nat} {d d1 : Array α} (hn : n ≤ d.size) (hbs : 1 ≤ bs) (ht : n < t * (2 * bs) + 2 * bs) (htn : t * (2 * bs) ≤ n) (h : Mrg lt tag bs n t d) (hP : PermIn (t * (2 * bs)) n d d1) (hs : SortedIn (tlt lt tag) (t * (2 * bs)) n d1) : Blk lt tag (2 * bs) n d1 := by
  obtain ⟨h1, h2, h3, h4⟩ := h
  refine ⟨fun s => ?_, fun s => ?_⟩
  · by_cases e : s < t
    · have := Nat.mul_le_mul_right (2 * bs) (show s + 1 ≤ t by omega)
      rw [Nat.min_eq_left (by omega)]
      exact sorted_off hP (.inl this) (h1 s e)
    · by_cases e2 : s = t
      · subst e2
        rw [Nat.succ_mul s (2 * bs), Nat.min_eq_right (by omega)]
        exact hs
      · intro i j hi hij hj
        have := Nat.mul_le_mul_right (2 * bs) (show t + 1 ≤ s by omega)
        rw [Nat.succ_mul] at this
        omega
  · by_cases e : s ≤ t
    · exact bound_perm (by omega) (Nat.le_refl _) hP (.inl (Nat.mul_le_mul_right _ e)) (h3 s)
    · intro i j hi hj hjn
      have := Nat.mul_le_mul_right (2 * bs) (show t + 1 ≤ s by omega)
      rw [Nat.succ_mul] at this
      omega
theorem mrg_none {bs n t : Nat} {d : Array α} (ht2 : n ≤ t * (2 * bs) + bs) (h : Mrg lt tag bs n t d) : SortedIn (tlt lt tag) (t * (2 * bs)) n d := by
  have a1 := h.2.1 (2 * t) (Nat.le_refl _)
  rw [Nat.succ_mul (2 * t) bs, two_mul_bs, Nat.min_eq_right ht2] at a1
  exact a1
/-- One block is all. -/
theorem blk_one {bs n : Nat} {d : Array α} (h : Blk lt tag bs n d) (hb : n ≤ bs) : SortedIn (tlt lt tag) 0 n d := by
  have := h.1 0
  rwa [Nat.zero_mul, Nat.zero_add, Nat.one_mul, Nat.min_eq_right hb] at this
end Go.Proofs.YtmagfjlpjjmknaaDoor
