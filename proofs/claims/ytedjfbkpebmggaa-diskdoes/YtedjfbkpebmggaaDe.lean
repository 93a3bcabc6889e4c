/- Names that are looked for: what byName, BinarySearchFunc and find answer. -/
import Derived.Test.YtedjfbkpebmggaaDd
namespace Go.Proofs.Ytedjfbkpebmggaa
open Go.Shelf Go.RowKit Go.Lib Go.Sort
set_option linter.unusedVariables false
set_option linter.unusedSimpArgs false
attribute [local go_sem ↓] Go.wp_at_zero Go.wp_at_succ
/-- -1, 0 or 1. -/
def cmpN (a b : ByteArray) : Int := if ltB a b then -1 else if eqB a b then 0 else 1
theorem nan_any (s : ByteArray) (w : World) : Calls Try.prog 47 #[.string s] w fun e w' => e = .returned (.bool false) ∧ w' = w := by
  have h : (s.toList == s.toList) = true := by simp
  go_enter Try.func47, Try.ntmps47
  go_wp2_with fail
  go_ret
  exact ⟨by simp, rfl⟩
set_option maxRecDepth 100000 in
set_option maxHeartbeats 2000000 in
theorem compare_any (a b : ByteArray) (w : World) : Calls Try.prog 43 #[.string a, .string b] w fun e w' => e = .returned (.int .i64 (cmpN a b)) ∧ w' = w := by
  have C : Hid (∀ s W, Calls Try.prog 47 #[.string s] W fun e w' => e = .returned (.bool false) ∧ w' = W) := nan_any
  unfold cmpN ltB eqB
  cases h1 : Op.bytesLess a.toList b.toList
  · cases h2 : a.toList == b.toList
    all_goals
      have h3 : (Op.bytesLess a.toList b.toList || a.toList == b.toList) = (a.toList == b.toList) := by rw [h1]; rfl
      rw [h2] at h3
      go_enter Try.func43, Try.ntmps43
      go_wp2_with fail
      refine (C.out _ _).mono ?_
      rintro e w1 ⟨rfl, rfl⟩
      go_wp2_with fail
      refine (C.out _ _).mono ?_
      rintro e w1 ⟨rfl, rfl⟩
      go_wp2_with fail
      go_ret
      exact ⟨rfl, rfl⟩
  · go_enter Try.func43, Try.ntmps43
    go_wp2_with fail
    refine (C.out _ _).mono ?_
    rintro e w1 ⟨rfl, rfl⟩
    go_wp2_with fail
    refine (C.out _ _).mono ?_
    rintro e w1 ⟨rfl, rfl⟩
    go_wp2_with fail
    go_ret
    exact ⟨rfl, rfl⟩
set_option maxRecDepth 100000 in
set_option maxHeartbeats 2000000 in
theorem byName_any (n d : ByteArray) (y : Int) (nm : ByteArray) (w : World) : Calls Try.prog 37 #[.agg #[.string n, .string d, .int .i64 y], .string nm] w fun e w' => e = .returned (.int .i64 (cmpN n nm)) ∧ Below w.heap.size w w' := by
  have C : Hid (∀ W, Calls Try.prog 43 #[.string n, .string nm] W fun e w' => e = .returned (.int .i64 (cmpN n nm)) ∧ w' = W) := fun W => compare_any n nm W
  have HB : Hid (Below w.heap.size w (w.alloc (.cells #[.string n, .string d, .int .i64 y] 41))) := one_below _ _
  go_enter Try.func37, Try.ntmps37
  go_wp2_with fail
  refine (C.out _).mono ?_
  rintro e w1 ⟨rfl, rfl⟩
  go_wp2_with fail
  go_ret
  exact ⟨rfl, HB.out⟩
/-- Names rise. -/
def Up (fs : List DF) : Prop := fs.Pairwise fun f g => ltB f.n g.n = true
/-- How many are called less. -/
def less (nm : ByteArray) (fs : List DF) : Nat := fs.countP fun f => ltB f.n nm
def has (nm : ByteArray) (fs : List DF) : Bool := fs.any fun f => eqB f.n nm
theorem Up.lt {fs : List DF} (h : Up fs) {i j : Nat} (hij : i < j) (hj : j < fs.length) : ltB fs[i].n fs[j].n = true := List.pairwise_iff_getElem.1 h i j (by omega) hj hij
theorem less_at {fs : List DF} {nm : ByteArray} {k : Nat} (hk : k ≤ fs.length) (h1 : ∀ t (h : t < fs.length), t < k → ltB fs[t].n nm = true) (h2 : ∀ t (h : t < fs.length), k ≤ t → ltB fs[t].n nm = false) : less nm fs = k := by
  unfold less
  rw [← List.take_append_drop k fs, List.countP_append, List.countP_eq_length.2, List.countP_eq_zero.2]
  · simp; omega
  · intro f hf
    obtain ⟨t, ht, rfl⟩ := List.getElem_of_mem hf
    rw [List.getElem_drop]
    rw [h2 _ _ (by omega)]; simp
  · intro f hf
    obtain ⟨t, ht, rfl⟩ := List.getElem_of_mem hf
    rw [List.getElem_take]
    simp only [List.length_take] at ht
    exact h1 _ _ (by omega)
/-- What is found. -/
theorem has_at {fs : List DF} {nm : ByteArray} {k : Nat} (hu : Up fs) (h1 : ∀ t (h : t < fs.length), t < k → ltB fs[t].n nm = true) (h2 : ∀ t (h : t < fs.length), k ≤ t → ltB fs[t].n nm = false) : has nm fs = if h : k < fs.length then eqB fs[k].n nm else false := by
  unfold has
  by_cases hk : k < fs.length
  · rw [dif_pos hk]
    cases e : eqB fs[k].n nm
    · rw [List.any_eq_false]
      intro f hf
      obtain ⟨t, ht, rfl⟩ := List.getElem_of_mem hf
      intro he
      have e2 := eqB_iff.1 he
      by_cases a : t < k
      · have := h1 t ht a; rw [e2, ltB_irrefl] at this; cases this
      · by_cases b : t = k
        · subst b; rw [he] at e; cases e
        · have := hu.lt (show k < t by omega) ht
          rw [e2, h2 k hk (Nat.le_refl _)] at this; cases this
    · rw [List.any_eq_true]
      exact ⟨_, List.getElem_mem hk, e⟩
  · rw [dif_neg hk, List.any_eq_false]
    intro f hf
    obtain ⟨t, ht, rfl⟩ := List.getElem_of_mem hf
    intro he
    have := h1 t ht (by omega); rw [eqB_iff.1 he, ltB_irrefl] at this; cases this
theorem cmpN_neg {a b : ByteArray} : cmpN a b < 0 ↔ ltB a b = true := by
  unfold cmpN; cases ltB a b <;> cases eqB a b <;> simp
theorem cmpN_zero {a b : ByteArray} (h : ltB a b = false) : (cmpN a b == 0) = eqB a b := by
  unfold cmpN; rw [h]; cases eqB a b <;> simp
set_option maxRecDepth 100000 in
set_option maxHeartbeats 4000000 in
theorem search_any (v : Value) (nm : ByteArray) (fs : List DF) (w : World) (h : FsL w v fs) (hu : Up fs) :
    Calls Try.prog 36 #[v, .string nm, .func (.func 37) #[] #[]] w fun e w' => ∃ k : Nat, e = .returned (.tuple #[.int .i64 k, .bool (has nm fs)]) ∧ k ≤ fs.length ∧ less nm fs = k ∧ (has nm fs = true → ∃ h : k < fs.length, fs[k].n = nm) ∧ Below w.heap.size w w' := by
  obtain ⟨p, c, rfl, hl, hs, hp⟩ := h
  have HP : Hid (0 < fs.length → ∃ b o, p = some ⟨b, o, none⟩ ∧ b < w.heap.size ∧ FsIs w b o fs) := hp
  have HU : Hid (Up fs) := hu
  have hl63 : fs.length < 4611686018427387904 := by omega
  have CB : Hid (∀ n d y W, Calls Try.prog 37 #[.agg #[.string n, .string d, .int .i64 y], .string nm] W fun e w' => e = .returned (.int .i64 (cmpN n nm)) ∧ Below W.heap.size W w') := fun n d y W => byName_any n d y nm W
  clear hp hs hu hl
  go_enter Try.func36, Try.ntmps36
  go_wp2_with fail
  go_loopg [9, 10] fs.length (fun gf s9 s10 wx => ∃ lo hi : Nat, s9 = .int .i64 lo ∧ s10 = .int .i64 hi ∧ lo ≤ hi ∧ hi ≤ fs.length ∧ hi ≤ lo + gf ∧ Hid (Below w.heap.size w wx) ∧ Hid ((∀ t (h : t < fs.length), t < lo → ltB fs[t].n nm = true) ∧ ∀ t (h : t < fs.length), hi ≤ t → ltB fs[t].n nm = false))
  case atStart => exact ⟨0, fs.length, rfl, rfl, by omega, by omega, by omega, Below.refl _ _, (show _ ∧ _ from ⟨fun t _ h => by omega, fun t h h2 => by omega⟩)⟩
  case round =>
    obtain ⟨lo, hi, rfl, rfl, hlh, hhn, hgf, HB, HI⟩ := hrel
    by_cases hlt : lo < hi
    · obtain ⟨b, o, rfl, hblt, hc⟩ := HP.out (by omega)
      have hm : (lo + hi) / 2 < fs.length := by omega
      obtain ⟨c0, c1, c2⟩ := (hc.below hblt HB.out) ((lo + hi) / 2) hm
      obtain ⟨⟨n, d, y⟩, hf⟩ : ∃ f, fs[(lo + hi) / 2] = f := ⟨_, rfl⟩
      have HF : Hid (fs[(lo + hi) / 2].n = n) := by rw [hf]; rfl
      rw [hf] at c0 c1 c2
      simp only at c0 c1 c2
      have C1 : Hid (∀ W, Calls Try.prog 37 #[.agg #[.string n, .string d, .int .i64 y], .string nm] W fun e w' => e = .returned (.int .i64 (cmpN n nm)) ∧ Below W.heap.size W w') := fun W => CB.out n d y W
      obtain ⟨m, hmd⟩ : ∃ m, (lo + hi) / 2 = m := ⟨_, rfl⟩
      have e1 : ((lo : Int) + (hi : Int)) / 2 = (m : Int) := by omega
      rw [hmd] at c0 c1 c2 hm
      have HF2 : Hid (∀ h : m < fs.length, fs[m].n = n) := fun h => by have := HF.out; simp only [hmd] at this; exact this
      have z0 : (0 : Int) ≤ (m : Int) := by omega
      have z1 : (m : Int) < (fs.length : Int) := by omega
      have z2 : lo ≤ m := by omega
      have z3 : m < hi := by omega
      have HM : Hid ((lo + hi) / 2 = m) := hmd
      clear hf HF hc hmd
      obtain ⟨cm, hcm⟩ : ∃ cm, cmpN n nm = cm := ⟨_, rfl⟩
      have HCM : Hid (cm < 0 ↔ ltB n nm = true) := by rw [← hcm]; exact cmpN_neg
      rw [hcm] at C1
      clear hcm
      by_cases t0 : cm < 0
      · go_wp2_with fail
        refine (C1.out _).mono ?_
        rintro e w2 ⟨rfl, hb2⟩
        have HB2 : Hid (Below w.heap.size w w2) := HB.out.trans (hb2.mono HB.out.size)
        have HI2 : Hid ((∀ t (h : t < fs.length), t < m + 1 → ltB fs[t].n nm = true) ∧ ∀ t (h : t < fs.length), hi ≤ t → ltB fs[t].n nm = false) := by
          refine ⟨fun t h ht => ?_, HI.out.2⟩
          have hlm : ltB n nm = true := HCM.out.1 t0
          by_cases e : t = m
          · subst e; rw [HF2.out h]; exact hlm
          · have := HU.out.lt (show t < m by omega) hm
            rw [HF2.out hm] at this
            exact ltB_trans this hlm
        clear hb2 HI HB C1
        go_wp2_with fail
        go_roundg (hi - (m + 1))
        case measure => omega
        case rel => exact ⟨m + 1, hi, by go_num, rfl, by omega, by omega, by omega, HB2, HI2⟩
      · go_wp2_with fail
        refine (C1.out _).mono ?_
        rintro e w2 ⟨rfl, hb2⟩
        have HB2 : Hid (Below w.heap.size w w2) := HB.out.trans (hb2.mono HB.out.size)
        have HI2 : Hid ((∀ t (h : t < fs.length), t < lo → ltB fs[t].n nm = true) ∧ ∀ t (h : t < fs.length), m ≤ t → ltB fs[t].n nm = false) := by
          refine ⟨HI.out.1, fun t h ht => ?_⟩
          have hlm : ltB n nm = false := by
            cases e : ltB n nm with
            | false => rfl
            | true => have := HCM.out.2 e; omega
          by_cases e : t = m
          · subst e; rw [HF2.out h]; exact hlm
          · have := HU.out.lt (show m < t by omega) h
            rw [HF2.out hm] at this
            cases e3 : ltB fs[t].n nm with
            | false => rfl
            | true => rw [← hlm]; exact (ltB_trans this e3).symm
        clear hb2 HI HB C1
        go_wp2_with fail
        go_roundg (m - lo)
        case measure => omega
        case rel => exact ⟨lo, m, rfl, by go_num, by omega, by omega, by omega, HB2, HI2⟩
    · obtain rfl : hi = lo := by omega
      have HLS : Hid (less nm fs = hi) := less_at hhn HI.out.1 HI.out.2
      have hhas := has_at HU.out HI.out.1 HI.out.2
      have zz : ¬ (hi : Int) < (hi : Int) := by omega
      by_cases hn : hi < fs.length
      · rw [dif_pos hn] at hhas
        obtain ⟨b, o, rfl, hblt, hc⟩ := HP.out (by omega)
        obtain ⟨c0, c1, c2⟩ := (hc.below hblt HB.out) hi hn
        have hlf := HI.out.2 hi hn (Nat.le_refl _)
        obtain ⟨⟨n, d, y⟩, hf⟩ : ∃ f, fs[hi] = f := ⟨_, rfl⟩
        have HF : Hid (∀ h : hi < fs.length, fs[hi].n = n) := fun _ => by rw [hf]
        rw [hf] at c0 c1 c2 hhas hlf
        simp only at c0 c1 c2 hhas hlf
        have z1 : (hi : Int) < (fs.length : Int) := by omega
        have z0 : (0 : Int) ≤ (hi : Int) := by omega
        have hcz := cmpN_zero hlf
        obtain ⟨cm, hcm⟩ : ∃ cm, cmpN n nm = cm := ⟨_, rfl⟩
        have C1 : Hid (∀ W, Calls Try.prog 37 #[.agg #[.string n, .string d, .int .i64 y], .string nm] W fun e w' => e = .returned (.int .i64 cm) ∧ Below W.heap.size W w') := fun W => by rw [← hcm]; exact CB.out n d y W
        rw [hcm] at hcz
        have HR : Hid (eqB n nm = true → ∃ h : hi < fs.length, fs[hi].n = nm) := fun e => ⟨hn, by rw [HF.out hn]; exact eqB_iff.1 e⟩
        obtain ⟨q, hq⟩ : ∃ q, eqB n nm = q := ⟨_, rfl⟩
        rw [hq] at hcz HR hhas
        have HH : Hid (has nm fs = q) := hhas
        clear hq hcm hlf hhas hf hc HI HF
        go_wp2_with fail
        refine (C1.out _).mono ?_
        rintro e w2 ⟨rfl, hb2⟩
        have HB2 : Hid (Below w.heap.size w w2) := HB.out.trans (hb2.mono HB.out.size)
        clear hb2 HB C1
        go_wp2_with fail
        go_ret2
        exact ⟨hi, by rw [HH.out]; rfl, hhn, HLS.out, by rw [HH.out]; exact HR.out, HB2.out⟩
      · rw [dif_neg hn] at hhas
        have z1 : ¬ (hi : Int) < (fs.length : Int) := by omega
        have HH : Hid (has nm fs = false) := hhas
        clear hhas HI
        go_wp2_with fail
        go_ret2
        exact ⟨hi, by rw [HH.out]; rfl, hhn, HLS.out, by rw [HH.out]; simp, HB.out⟩
end Go.Proofs.Ytedjfbkpebmggaa
