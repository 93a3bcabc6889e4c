/- What the reference's ends and escape answer. -/
import Derived.Test.YtimnnebmjapneaaDoorGa
namespace Go.Proofs.YtimnnebmjapneaaDoor
open Go.RowKit Go.Lib
set_option linter.unusedVariables false
attribute [local go_sem ↓] Go.wp_at_zero Go.wp_at_succ
theorem GA.drop {w : World} {b o : Nat} {ls : List Let} (h : GA w (some ⟨b, o, none⟩) ls) (j : Nat) : GA w (some ⟨b, o + j * 2, none⟩) (ls.drop j) := by
  intro h0
  rw [List.length_drop] at h0
  obtain ⟨b', o', e, hlt, hc⟩ := h (by omega)
  simp only [Option.some.injEq, Addr.mk.injEq, and_true] at e
  obtain ⟨rfl, rfl⟩ := e
  refine ⟨b, o + j * 2, rfl, hlt, fun i hi => ?_⟩
  rw [List.length_drop] at hi
  have := hc (j + i) (by omega)
  rw [show o + (j + i) * 2 = o + j * 2 + i * 2 by omega] at this
  rw [List.getElem_drop]
  exact this
theorem wlen_drop (ls : List Let) (j : Nat) (h : j < ls.length) : wlen (ls.drop j) = if isEnd ls[j].1 then 0 else wlen (ls.drop (j + 1)) + 1 := by
  rw [List.drop_eq_getElem_cons h]
  rfl
theorem skip_zero (ls : List Let) (j : Nat) (h : j < ls.length) : skipL false (ls.drop j) = 0 ↔ isBl ls[j].1 = false ∧ ls[j].1 ≠ 59 := by
  rw [skip_drop false ls j h]
  simp only
  cases e : isBl ls[j].1 with
  | true => simp
  | false =>
    by_cases h59 : ls[j].1 = 59
    · simp [h59]
    · simp [h59]
set_option maxRecDepth 100000 in
set_option maxHeartbeats 4000000 in
theorem ends_any (p : Option Addr) (c : Nat) (ls : List Let) (w : World) (hg : GA w p ls) (hl : ls.length ≤ 2048) (hc1 : ls.length ≤ c) (T : Nat) (HT : Hid (wlen ls = T)) :
    Calls Tryd.prog 39 #[.slice p ls.length c] w fun e w' => e = .returned (.int .i64 T) ∧ w' = w := by
  have HG : Hid (GA w p ls) := hg
  clear hg
  go_enter Tryd.func39, Tryd.ntmps39
  go_wp2
  go_loop [3] (fun s3 => ∃ (j : Nat), s3 = .int .i64 j ∧ j ≤ ls.length ∧ Hid (j + wlen (ls.drop j) = T)) (fun s3 => ls.length - (RowKit.intOf s3).toNat)
  case atStart => exact ⟨0, rfl, by omega, (by show _ = _; have := HT.out; simpa using this)⟩
  case round =>
    obtain ⟨j, rfl, hjl, HB⟩ := hrel
    by_cases hlt : j < ls.length
    · have hz0 : (0 : Int) ≤ (j : Int) := by omega
      have hz1 : (j : Int) < (ls.length : Int) := by omega
      have hga := HG.out
      obtain ⟨b, o, rfl, hb, hc⟩ := HG.out (by omega)
      obtain ⟨x0, x1⟩ := hc j hlt
      have hd := HB.out
      rw [wlen_drop ls j hlt] at hd
      have hsz := skip_zero ls j hlt
      have cb := blanks_any _ (c - j) (ls.drop j) w (hga.drop j) (by rw [List.length_drop]; omega) _ (by show _ = _; rfl)
      rw [List.length_drop] at cb
      obtain ⟨k, hk⟩ : ∃ k, skipL false (ls.drop j) = k := ⟨_, rfl⟩
      rw [hk] at cb hsz
      obtain ⟨⟨r, bd⟩, hr⟩ : ∃ x, ls[j] = x := ⟨_, rfl⟩
      rw [hr] at x0 x1 hd hsz
      simp only at x0 x1 hd hsz
      have CB : Hid (Calls Tryd.prog 14 #[.slice (some ⟨b, o + j * 2, none⟩) (ls.length - j) (c - j)] w fun e w' => e = .returned (.int .i64 k) ∧ w' = w) := cb
      clear hr HB hc HT cb hk hga
      by_cases hk0 : k = 0
      · subst hk0
        obtain ⟨hbl, h59⟩ := hsz.1 rfl
        clear hsz
        by_cases h40 : r = 40
        · subst h40
          have hT : j = T := by simpa [isEnd, isBl] using hd
          subst hT
          clear hd
          go_wp2_with fail
          refine CB.out.mono ?_
          rintro e w' ⟨rfl, rfl⟩
          go_wp2
          go_ret
          exact ⟨rfl, rfl⟩
        have n40 : (r != 40) = true := bne_iff_ne.2 h40
        by_cases h41 : r = 41
        · subst h41
          have hT : j = T := by simpa [isEnd, isBl] using hd
          subst hT
          clear hd
          go_wp2_with fail
          refine CB.out.mono ?_
          rintro e w' ⟨rfl, rfl⟩
          go_wp2
          go_ret
          exact ⟨rfl, rfl⟩
        have n41 : (r != 41) = true := bne_iff_ne.2 h41
        by_cases h34 : r = 34
        · subst h34
          have hT : j = T := by simpa [isEnd, isBl] using hd
          subst hT
          clear hd
          go_wp2_with fail
          refine CB.out.mono ?_
          rintro e w' ⟨rfl, rfl⟩
          go_wp2
          go_ret
          exact ⟨rfl, rfl⟩
        have n34 : (r != 34) = true := bne_iff_ne.2 h34
        have he : isEnd r = false := by simp [isEnd, hbl, h59, h40, h41, h34]
        have HB2 : Hid (j + 1 + wlen (ls.drop (j + 1)) = T) := by
          show _ = _
          rw [he] at hd
          simp at hd
          omega
        clear hd he h40 h41 h34 h59 hbl
        go_wp2_with fail
        refine CB.out.mono ?_
        rintro e w' ⟨rfl, rfl⟩
        go_wp2
        exact ⟨⟨j + 1, by go_num, by omega, HB2⟩, by simp [RowKit.intOf]; omega⟩
      · have tk : ((k : Int) == 0) = false := beq_eq_false_iff_ne.2 (by omega)
        have he : isEnd r = true := by
          cases e : isEnd r with
          | true => rfl
          | false =>
            have := end_parts e
            exact absurd (hsz.2 ⟨this.1, this.2.1⟩) hk0
        have hT : j = T := by rw [he] at hd; simpa using hd
        subst hT
        clear hd he hsz hk0
        go_wp2_with fail
        refine CB.out.mono ?_
        rintro e w' ⟨rfl, rfl⟩
        go_wp2
        go_ret
        exact ⟨rfl, rfl⟩
    · have hlt' : ¬ (j : Int) < (ls.length : Int) := by omega
      have hT : j = T := by
        have := HB.out
        rw [List.drop_of_length_le (by omega)] at this
        simpa [wlen] using this
      subst hT
      clear HB HT
      go_wp2
      go_ret
      exact ⟨rfl, rfl⟩
/-! ### Escapes -/
/-- Seven digits at most, and six. -/
theorem hex_more : ∀ (n : Nat) (x : Int) (l : List Let), ((hexGo (n + 1) x l).2 ≤ n → hexGo n x l = hexGo (n + 1) x l) ∧ (¬ (hexGo (n + 1) x l).2 ≤ n → (hexGo n x l).2 = n ∧ ∃ d r, l.drop n = d :: r ∧ hexV d.1 ≠ none)
  | 0, x, [] => by simp [hexGo]
  | 0, x, c :: l => by
    cases h : hexV c.1 with
    | none => simp [hexGo, h]
    | some d => simp [hexGo, h]
  | n + 1, x, [] => by simp [hexGo]
  | n + 1, x, c :: l => by
    cases h : hexV c.1 with
    | none => simp [hexGo, h]
    | some d =>
      have ih := hex_more n (x * 16 + d) l
      have e1 : ∀ m, hexGo (m + 1) x (c :: l) = ((hexGo m (x * 16 + d) l).1, (hexGo m (x * 16 + d) l).2 + 1) := fun m => by simp only [hexGo, h]
      rw [e1 (n + 1), e1 n]
      constructor
      · intro hle
        simp only at hle
        have := ih.1 (by omega)
        rw [this]
      · intro hle
        simp only at hle
        obtain ⟨h1, d', r', h2, h3⟩ := ih.2 (by omega)
        exact ⟨by simp only; omega, d', r', by simpa using h2, h3⟩
/-- What the reference's escape answers. -/
def refE (ls : List Let) : Int × Nat := match escL ls with
  | none => (0, 0)
  | some p => p
/-- .. behind u and the bracket. -/
def refH (m : List Let) : Int × Nat :=
  if (hexGo 7 0 m).2 = 0 ∨ (hexGo 7 0 m).2 = 7 then (0, 0) else match m.drop (hexGo 7 0 m).2 with
    | [] => (0, 0)
    | d :: _ => if d.1 ≠ 125 ∨ isRuneP (hexGo 7 0 m).1 = false then (0, 0) else ((hexGo 7 0 m).1, (hexGo 7 0 m).2 + 3)
theorem hexV_brace {d : Int} (h : hexV d ≠ none) : d ≠ 125 := by
  rintro rfl
  exact h (by decide)
theorem refE_hex (b1 b2 : Bool) (m : List Let) : refE ((117, b1) :: (123, b2) :: m) = refH m := by
  have hm := hex_more 6 0 m
  have e0 : hexEsc ((123, b2) :: m) = match m.drop (hexGo 6 0 m).2 with
    | [] => none
    | d :: _ => if (hexGo 6 0 m).2 = 0 ∨ d.1 ≠ 125 ∨ isRuneP (hexGo 6 0 m).1 = false then none else some ((hexGo 6 0 m).1, (hexGo 6 0 m).2 + 2) := by
    rw [hexEsc]
    exact if_neg (by simp)
  have e1 : escL ((117, b1) :: (123, b2) :: m) = (hexEsc ((123, b2) :: m)).map (fun p => (p.1, p.2 + 1)) := by
    rw [escL]
    exact if_pos rfl
  unfold refE refH
  rw [e1, e0]
  by_cases h6 : (hexGo 7 0 m).2 ≤ 6
  · have e := hm.1 h6
    simp only [Nat.reduceAdd] at e
    rw [e]
    by_cases h0 : (hexGo 7 0 m).2 = 0
    · rw [if_pos (Or.inl h0)]
      cases hd : m.drop (hexGo 7 0 m).2 with
      | nil => rfl
      | cons d r =>
        simp only
        rw [if_pos (Or.inl h0)]
        rfl
    · rw [if_neg (by omega)]
      cases hd : m.drop (hexGo 7 0 m).2 with
      | nil => rfl
      | cons d r =>
        simp only
        by_cases hc : d.1 ≠ 125 ∨ isRuneP (hexGo 7 0 m).1 = false
        · rw [if_pos hc, if_pos (Or.inr hc)]
          rfl
        · rw [if_neg hc, if_neg (by rintro (h | h); exact h0 h; exact hc h)]
          rfl
  · obtain ⟨h1, d, r, h2, h3⟩ := hm.2 h6
    have h7 := (hexGo_le 7 0 m).1
    rw [if_pos (Or.inr (show (hexGo 7 0 m).2 = 7 by omega))]
    rw [h1, h2]
    simp only
    rw [if_pos (Or.inr (Or.inl (hexV_brace h3)))]
    rfl
theorem refE_u (b1 : Bool) (m : List Let) (h : ∀ b2 m', m ≠ (123, b2) :: m') : refE ((117, b1) :: m) = (0, 0) := by
  unfold refE
  rw [show escL ((117, b1) :: m) = (hexEsc m).map (fun p => (p.1, p.2 + 1)) by rw [escL]; exact if_pos rfl]
  cases m with
  | nil => rfl
  | cons c m =>
    obtain ⟨r, b⟩ := c
    have : r ≠ 123 := by rintro rfl; exact h _ _ rfl
    rw [show hexEsc ((r, b) :: m) = none by rw [hexEsc]; exact if_pos this]
    rfl
theorem refE_o (r : Int) (b1 : Bool) (m : List Let) (h : r ≠ 117) (h1 : r ≠ 34) (h2 : r ≠ 92) (h3 : r ≠ 110) (h4 : r ≠ 116) : refE ((r, b1) :: m) = (0, 0) := by
  simp [refE, escL, h, h1, h2, h3, h4]
end Go.Proofs.YtimnnebmjapneaaDoor
