/- Stable sorting as slices.SortStableFunc does it, over arrays: exchanges of ranges, rotations, where the halves of a merge part. No walk stands in this text. -/
import Derived.Sort.LotA
namespace Go.Proofs.YtaekbmpiohmciaaDoor
open Go.Sort
set_option linter.unusedVariables false
variable {α : Type} [Inhabited α]

/-- So many places from a on are exchanged for those from b on. -/
def swapRange (d : Array α) (a b : Nat) : Nat → Array α
  | 0 => d
  | n + 1 => swp (swapRange d a b n) (a + n) (b + n)
theorem swapRange_size (d : Array α) (a b : Nat) : ∀ n, (swapRange d a b n).size = d.size
  | 0 => rfl
  | n + 1 => by rw [swapRange, swp_size, swapRange_size d a b n]
theorem swapRange_get (d : Array α) (a b : Nat) : ∀ n, a + n ≤ b → b + n ≤ d.size → ∀ k, (swapRange d a b n)[k]! = if a ≤ k ∧ k < a + n then d[k - a + b]! else if b ≤ k ∧ k < b + n then d[k - b + a]! else d[k]!
  | 0, _, _, k => by rw [swapRange, if_neg (by omega), if_neg (by omega)]
  | n + 1, h1, h2, k => by
    have hs := swapRange_size d a b n
    have ih := swapRange_get d a b n (by omega) (by omega)
    rw [swapRange, swp_get _ (by omega) (by omega)]
    by_cases hkb : k = b + n
    · rw [if_pos hkb, ih, if_neg (by omega), if_neg (by omega), if_neg (by omega), if_pos (by omega), show k - b + a = a + n by omega]
    · rw [if_neg hkb]
      by_cases hka : k = a + n
      · rw [if_pos hka, ih, if_neg (by omega), if_neg (by omega), if_pos (by omega), show k - a + b = b + n by omega]
      · rw [if_neg hka, ih]
        by_cases c1 : a ≤ k ∧ k < a + n
        · rw [if_pos c1, if_pos (by omega)]
        · rw [if_neg c1, if_neg (show ¬ (a ≤ k ∧ k < a + (n + 1)) by omega)]
          by_cases c2 : b ≤ k ∧ k < b + n
          · rw [if_pos c2, if_pos (by omega)]
          · rw [if_neg c2, if_neg (by omega)]
theorem swapRange_perm (d : Array α) (a b lo hi : Nat) (hlo : lo ≤ a) (hab : a ≤ b) (hhi : hi ≤ d.size) : ∀ n, b + n ≤ hi → PermIn lo hi d (swapRange d a b n)
  | 0, _ => permIn_refl _ _ _
  | n + 1, h => by
    have ih := swapRange_perm d a b lo hi hlo hab hhi n (by omega)
    exact permIn_trans _ _ _ _ _ ih (swp_permIn _ _ _ _ _ (by omega) (by omega) (by omega) (by omega) (by rw [swapRange_size]; exact hhi))

/-- d' is d, the places from a to m behind those from m to b. -/
def RotIs (d d' : Array α) (a m b : Nat) : Prop :=
  d'.size = d.size ∧ ∀ k, d'[k]! = if a ≤ k ∧ k < a + (b - m) then d[k + (m - a)]! else if a + (b - m) ≤ k ∧ k < b then d[k - (b - m)]! else d[k]!
theorem RotIs.same (d : Array α) {a m b : Nat} (h : a = m ∨ b = m) : RotIs d d a m b := by
  refine ⟨rfl, fun k => ?_⟩
  rcases h with rfl | rfl
  · split
    · rw [Nat.sub_self, Nat.add_zero]
    · split
      · omega
      · rfl
  · rw [Nat.sub_self, if_neg (by omega)]
    split
    · rfl
    · rfl
/-- The loop of a rotation. -/
def rotLoop (m : Nat) : Nat → Nat → Nat → Array α → Array α
  | 0, _, _, d => d
  | f + 1, i, j, d => if i = j then swapRange d (m - i) m i else if j < i then rotLoop m f (i - j) j (swapRange d (m - i) m j) else rotLoop m f i (j - i) (swapRange d (m - i) (m + j - i) i)
theorem rotLoop_spec (m lo hi : Nat) : ∀ (f i j : Nat) (d : Array α), i + j ≤ f → 1 ≤ i → 1 ≤ j → lo + i ≤ m → m + j ≤ hi → hi ≤ d.size → RotIs d (rotLoop m f i j d) (m - i) m (m + j) ∧ PermIn lo hi d (rotLoop m f i j d)
  | 0, i, j, d, h, h1, h2, _, _, _ => by omega
  | f + 1, i, j, d, h, h1, h2, h3, h4, h5 => by
    rw [rotLoop]
    by_cases e : i = j
    · subst e
      rw [if_pos rfl]
      refine ⟨⟨swapRange_size _ _ _ _, fun k => ?_⟩, swapRange_perm d _ _ lo hi (by omega) (by omega) h5 i (by omega)⟩
      rw [swapRange_get d _ _ i (by omega) (by omega)]
      by_cases c1 : m - i ≤ k ∧ k < m - i + i
      · rw [if_pos c1, if_pos (by omega), show k - (m - i) + m = k + (m - (m - i)) by omega]
      · rw [if_neg c1]
        by_cases c2 : m ≤ k ∧ k < m + i
        · rw [if_pos c2, if_neg (by omega), if_pos (by omega), show k - m + (m - i) = k - (m + i - m) by omega]
        · rw [if_neg c2, if_neg (by omega), if_neg (by omega)]
    · rw [if_neg e]
      by_cases hji : j < i
      · rw [if_pos hji]
        have hz := swapRange_size d (m - i) m j
        have g1 := swapRange_get d (m - i) m j (by omega) (by omega)
        have p1 := swapRange_perm d (m - i) m lo hi (by omega) (by omega) h5 j (by omega)
        generalize swapRange d (m - i) m j = d1 at hz g1 p1
        obtain ⟨⟨s1, r1⟩, p2⟩ := rotLoop_spec m lo hi f (i - j) j d1 (by omega) (by omega) h2 (by omega) h4 (by omega)
        refine ⟨⟨s1.trans hz, fun k => ?_⟩, permIn_trans _ _ _ _ _ p1 p2⟩
        rw [r1]
        by_cases c1 : m - (i - j) ≤ k ∧ k < m - (i - j) + (m + j - m)
        · rw [if_pos c1, g1, if_neg (by omega), if_pos (by omega), if_neg (by omega), if_pos (by omega), show k + (m - (m - (i - j))) - m + (m - i) = k - (m + j - m) by omega]
        · rw [if_neg c1]
          by_cases c2 : m - (i - j) + (m + j - m) ≤ k ∧ k < m + j
          · rw [if_pos c2, g1, if_neg (by omega), if_neg (by omega), if_neg (by omega), if_pos (by omega)]
          · rw [if_neg c2, g1]
            by_cases c3 : m - i ≤ k ∧ k < m - i + j
            · rw [if_pos c3, if_pos (by omega), show k - (m - i) + m = k + (m - (m - i)) by omega]
            · rw [if_neg c3, if_neg (by omega), if_neg (by omega), if_neg (by omega)]
      · rw [if_neg hji]
        have hz := swapRange_size d (m - i) (m + j - i) i
        have g1 := swapRange_get d (m - i) (m + j - i) i (by omega) (by omega)
        have p1 := swapRange_perm d (m - i) (m + j - i) lo hi (by omega) (by omega) h5 i (by omega)
        generalize swapRange d (m - i) (m + j - i) i = d1 at hz g1 p1
        obtain ⟨⟨s1, r1⟩, p2⟩ := rotLoop_spec m lo hi f i (j - i) d1 (by omega) h1 (by omega) h3 (by omega) (by omega)
        refine ⟨⟨s1.trans hz, fun k => ?_⟩, permIn_trans _ _ _ _ _ p1 p2⟩
        rw [r1]
        by_cases c1 : m - i ≤ k ∧ k < m - i + (m + (j - i) - m)
        · rw [if_pos c1, g1, if_neg (by omega), if_neg (by omega), if_pos (by omega)]
        · rw [if_neg c1]
          by_cases c2 : m - i + (m + (j - i) - m) ≤ k ∧ k < m + (j - i)
          · rw [if_pos c2, g1, if_pos (by omega), if_pos (by omega), show k - (m + (j - i) - m) - (m - i) + (m + j - i) = k + (m - (m - i)) by omega]
          · rw [if_neg c2, g1]
            by_cases c3 : m + j - i ≤ k ∧ k < m + j - i + i
            · rw [if_neg (by omega), if_pos c3, if_neg (by omega), if_pos (by omega), show k - (m + j - i) + (m - i) = k - (m + j - m) by omega]
            · rw [if_neg (by omega), if_neg c3, if_neg (by omega), if_neg (by omega)]

/-! ### What is told of two runs -/
section
variable {lt lt' : α → α → Bool}
theorem le_trans' {β : Type} {lt' : β → β → Bool} (hS : SWO lt') {x y z : β} (h1 : lt' y x = false) (h2 : lt' z y = false) : lt' z x = false := hS.ntrans z y x h2 h1
/-- Of a right one and a left one both orders say the same. -/
def Agree (lt lt' : α → α → Bool) (a m b : Nat) (d : Array α) : Prop := ∀ i j, a ≤ i → i < m → m ≤ j → j < b → lt d[j]! d[i]! = lt' d[j]! d[i]!
theorem sorted_join {a m b : Nat} {d : Array α} (h1 : SortedIn lt' a m d) (h2 : SortedIn lt' m b d) (hc : ∀ i j, a ≤ i → i < m → m ≤ j → j < b → lt' d[j]! d[i]! = false) : SortedIn lt' a b d := by
  intro i j hi hij hj
  by_cases hjm : j < m
  · exact h1 i j hi hij hjm
  · by_cases him : i < m
    · exact hc i j hi him (by omega) hj
    · exact h2 i j (by omega) hij hj
theorem sorted_congr {a b : Nat} {d d' : Array α} (h : SortedIn lt' a b d) (he : ∀ k, a ≤ k → k < b → d'[k]! = d[k]!) : SortedIn lt' a b d' := by
  intro i j hi hij hj
  rw [he i hi (by omega), he j (by omega) hj]
  exact h i j hi hij hj
theorem cross_left {a m b : Nat} {d d1 : Array α} (hm : m ≤ d.size) (hP : PermIn a m d d1) (hc : ∀ i j, a ≤ i → i < m → m ≤ j → j < b → lt' d[j]! d[i]! = false) : ∀ i j, a ≤ i → i < m → m ≤ j → j < b → lt' d1[j]! d1[i]! = false := by
  intro i j hi him hj hjb
  have e := hP.2.1 j (.inr hj)
  rw [e]
  exact permIn_all d d1 a m (fun x => lt' d[j]! x = false) hm hP (fun k h1 h2 => hc k j h1 h2 hj hjb) i hi him
theorem cross_right {a m b : Nat} {d d1 : Array α} (hb : b ≤ d.size) (hP : PermIn m b d d1) (hc : ∀ i j, a ≤ i → i < m → m ≤ j → j < b → lt' d[j]! d[i]! = false) : ∀ i j, a ≤ i → i < m → m ≤ j → j < b → lt' d1[j]! d1[i]! = false := by
  intro i j hi him hj hjb
  have e := hP.2.1 i (.inl him)
  rw [e]
  exact permIn_all d d1 m b (fun x => lt' x d[i]! = false) hb hP (fun k h1 h2 => hc i k hi him h1 h2) j hj hjb
/-- The first one alone, put among the others. -/
theorem first_in (hS : SWO lt') {a b i : Nat} {d d' : Array α} (hai : a + 1 ≤ i) (hib : i ≤ b) (hr : SortedIn lt' (a + 1) b d) (hp : i = a + 1 ∨ lt' d[i - 1]! d[a]! = true) (hq : i = b ∨ lt' d[i]! d[a]! = false) (hrot : RotIs d d' a (a + 1) i) : SortedIn lt' a b d' := by
  obtain ⟨_, g⟩ := hrot
  have g1 : ∀ k, a ≤ k → k < i - 1 → d'[k]! = d[k + 1]! := fun k h1 h2 => by rw [g, if_pos (by omega), show a + 1 - a = 1 by omega]
  have g2 : d'[i - 1]! = d[a]! := by
    rw [g, if_neg (by omega), if_pos (by omega), show i - 1 - (i - (a + 1)) = a by omega]
  have g3 : ∀ k, i ≤ k → d'[k]! = d[k]! := fun k h1 => by rw [g, if_neg (by omega), if_neg (by omega)]
  have low : ∀ k, a + 1 ≤ k → k < i → lt' d[a]! d[k]! = false := fun k h1 h2 => by
    rcases hp with hp | hp
    · omega
    · have hlast := SWO.asymmA hS hp
      by_cases e : k = i - 1
      · rw [e]; exact hlast
      · exact le_trans' hS (hr k (i - 1) h1 (by omega) (by omega)) hlast
  have high : ∀ k, i ≤ k → k < b → lt' d[k]! d[a]! = false := fun k h1 h2 => by
    rcases hq with hq | hq
    · omega
    · by_cases e : k = i
      · rw [e]; exact hq
      · exact le_trans' hS hq (hr i k (by omega) (by omega) h2)
  intro x y hx hxy hy
  by_cases hy1 : y < i - 1
  · rw [g1 x hx (by omega), g1 y (by omega) hy1]
    exact hr _ _ (by omega) (by omega) (by omega)
  · by_cases hy2 : y = i - 1
    · rw [hy2, g2, g1 x hx (by omega)]
      exact low _ (by omega) (by omega)
    · rw [g3 y (by omega)]
      by_cases hx1 : x < i - 1
      · rw [g1 x hx hx1]
        exact hr _ _ (by omega) (by omega) hy
      · by_cases hx2 : x = i - 1
        · rw [hx2, g2]
          exact high y (by omega) hy
        · rw [g3 x (by omega)]
          exact hr _ _ (by omega) hxy hy
/-- The last one alone, put among the others. -/
theorem last_in (hS : SWO lt') {a m i : Nat} {d d' : Array α} (hai : a ≤ i) (him : i ≤ m) (hl : SortedIn lt' a m d) (hp : i = a ∨ lt' d[m]! d[i - 1]! = false) (hq : i = m ∨ lt' d[m]! d[i]! = true) (hrot : RotIs d d' i m (m + 1)) : SortedIn lt' a (m + 1) d' := by
  obtain ⟨_, g⟩ := hrot
  have g1 : ∀ k, k < i → d'[k]! = d[k]! := fun k h1 => by rw [g, if_neg (by omega), if_neg (by omega)]
  have g2 : d'[i]! = d[m]! := by rw [g, if_pos (by omega), show i + (m - i) = m by omega]
  have g3 : ∀ k, i < k → k ≤ m → d'[k]! = d[k - 1]! := fun k h1 h2 => by rw [g, if_neg (by omega), if_pos (by omega), show m + 1 - m = 1 by omega]
  have low : ∀ k, a ≤ k → k < i → lt' d[m]! d[k]! = false := fun k h1 h2 => by
    rcases hp with hp | hp
    · omega
    · by_cases e : k = i - 1
      · rw [e]; exact hp
      · exact le_trans' hS (hl k (i - 1) h1 (by omega) (by omega)) hp
  have high : ∀ k, i ≤ k → k < m → lt' d[k]! d[m]! = false := fun k h1 h2 => by
    rcases hq with hq | hq
    · omega
    · have hlast := SWO.asymmA hS hq
      by_cases e : k = i
      · rw [e]; exact hlast
      · exact le_trans' hS hlast (hl i k (by omega) (by omega) h2)
  intro x y hx hxy hy
  by_cases hx1 : x < i
  · rw [g1 x hx1]
    by_cases hy1 : y < i
    · rw [g1 y hy1]; exact hl x y hx hxy (by omega)
    · by_cases hy2 : y = i
      · rw [hy2, g2]; exact low x hx hx1
      · rw [g3 y (by omega) (by omega)]
        exact hl x (y - 1) hx (by omega) (by omega)
  · by_cases hx2 : x = i
    · rw [hx2, g2, g3 y (by omega) (by omega)]
      exact high _ (by omega) (by omega)
    · rw [g3 x (by omega) (by omega), g3 y (by omega) (by omega)]
      exact hl _ _ (by omega) (by omega) (by omega)
/-- Where a merge is cut in two. -/
theorem cut_sorted (hS : SWO lt') {d d' : Array α} {a m b mid start en n s0 r0 : Nat} (h1 : a < m) (h2 : m < b) (hmid : mid = (a + b) / 2) (hn : n = mid + m) (hen : en + start = n)
    (hs0 : s0 = if mid < m then n - b else a) (hr0 : r0 = if mid < m then mid else m) (hst : s0 ≤ start) (hst2 : start ≤ r0) (hl : SortedIn lt' a m d) (hr : SortedIn lt' m b d)
    (hp : start = s0 ∨ lt' d[n - start]! d[start - 1]! = false) (hq : start = r0 ∨ lt' d[n - 1 - start]! d[start]! = true) (hrot : RotIs d d' start m en) :
    (a ≤ start ∧ start ≤ mid ∧ start ≤ m ∧ m ≤ en ∧ mid ≤ en ∧ en ≤ b ∧ a < mid ∧ mid < b) ∧ (SortedIn lt' a start d' ∧ SortedIn lt' start mid d' ∧ SortedIn lt' mid en d' ∧ SortedIn lt' en b d') ∧
      ((∀ k, k < start → d'[k]! = d[k]!) ∧ (∀ k, start ≤ k → k < mid → d'[k]! = d[k + (m - start)]!) ∧ (∀ k, mid ≤ k → k < en → d'[k]! = d[k - (en - m)]!) ∧ (∀ k, en ≤ k → d'[k]! = d[k]!)) ∧
      ∀ i j, a ≤ i → i < mid → mid ≤ j → j < b → lt' d'[j]! d'[i]! = false := by
  have hr : SortedIn lt' m b d := hr
  obtain ⟨_, g⟩ := hrot
  have bounds : a ≤ start ∧ start ≤ mid ∧ start ≤ m ∧ m ≤ en ∧ mid ≤ en ∧ en ≤ b ∧ a < mid ∧ mid < b := by
    split at hs0 <;> split at hr0 <;> omega
  obtain ⟨b1, b2, b3, b4, b5, b6, b7, b8⟩ := bounds
  have e1 : start + (en - m) = mid := by omega
  have g1 : ∀ k, k < start → d'[k]! = d[k]! := fun k h => by rw [g, if_neg (by omega), if_neg (by omega)]
  have g2 : ∀ k, start ≤ k → k < mid → d'[k]! = d[k + (m - start)]! := fun k h h' => by rw [g, if_pos (by omega)]
  have g3 : ∀ k, mid ≤ k → k < en → d'[k]! = d[k - (en - m)]! := fun k h h' => by rw [g, if_neg (by omega), if_pos (by omega)]
  have g4 : ∀ k, en ≤ k → d'[k]! = d[k]! := fun k h => by rw [g, if_neg (by omega), if_neg (by omega)]
  have hsl : start = s0 → (start = a ∨ en = b) := fun e => by split at hs0 <;> omega
  have hsr : start = r0 → (en = m ∨ start = m) := fun e => by split at hr0 <;> omega
  have lowR : ∀ i j, a ≤ i → i < start → en ≤ j → j < b → lt' d[j]! d[i]! = false := fun i j h3 h4 h5 h6 => by
    rcases hp with hp | hp
    · rcases hsl hp with h | h <;> omega
    · rw [show n - start = en by omega] at hp
      have x1 : lt' d[en]! d[i]! = false := by
        by_cases e : i = start - 1
        · rw [e]; exact hp
        · exact le_trans' hS (hl i (start - 1) h3 (by omega) (by omega)) hp
      by_cases e : j = en
      · rw [e]; exact x1
      · exact le_trans' hS x1 (hr en j (by omega) (by omega) h6)
  have rightL : ∀ i j, m ≤ i → i < en → start ≤ j → j < m → lt' d[j]! d[i]! = false := fun i j h3 h4 h5 h6 => by
    rcases hq with hq | hq
    · rcases hsr hq with h | h <;> omega
    · have hq' := SWO.asymmA hS hq
      rw [show n - 1 - start = en - 1 by omega] at hq'
      have x1 : lt' d[start]! d[i]! = false := by
        by_cases e : i = en - 1
        · rw [e]; exact hq'
        · exact le_trans' hS (hr i (en - 1) h3 (by omega) (by omega)) hq'
      by_cases e : j = start
      · rw [e]; exact x1
      · exact le_trans' hS x1 (hl start j (by omega) (by omega) h6)
  refine ⟨⟨b1, b2, b3, b4, b5, b6, b7, b8⟩, ⟨?_, ?_, ?_, ?_⟩, ⟨g1, g2, g3, g4⟩, ?_⟩
  · intro i j hi hij hj
    rw [g1 i (by omega), g1 j hj]; exact hl i j hi hij (by omega)
  · intro i j hi hij hj
    rw [g2 i hi (by omega), g2 j (by omega) hj]; exact hr _ _ (by omega) (by omega) (by omega)
  · intro i j hi hij hj
    rw [g3 i hi (by omega), g3 j (by omega) hj]; exact hl _ _ (by omega) (by omega) (by omega)
  · intro i j hi hij hj
    rw [g4 i hi, g4 j (by omega)]; exact hr i j (by omega) hij hj
  · intro i j hi him hj hjb
    by_cases ci : i < start
    · rw [g1 i ci]
      by_cases cj : j < en
      · rw [g3 j hj cj]; exact hl i _ hi (by omega) (by omega)
      · rw [g4 j (by omega)]; exact lowR i j hi ci (by omega) hjb
    · rw [g2 i (by omega) him]
      by_cases cj : j < en
      · rw [g3 j hj cj]; exact rightL _ _ (by omega) (by omega) (by omega) (by omega)
      · rw [g4 j (by omega)]; exact hr _ j (by omega) (by omega) hjb
end
end Go.Proofs.YtaekbmpiohmciaaDoor
