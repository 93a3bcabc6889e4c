/- What Lex reads from a token's place on. No walk stands in this text. -/
import Derived.Test.YtimnnebmjapneaaDoorPs
namespace Go.Proofs.YtimnnebmjapneaaDoor
open Go.RowKit Go.Lib Go.Sort
set_option linter.unusedVariables false
set_option linter.unusedSimpArgs false

theorem lexGo_acc (ls : List Let) : ∀ (f p : Nat) (acc : List Tok), lexGo ls f p acc = if (lexGo ls f p []).2.1 = 0 then (acc ++ (lexGo ls f p []).1, 0, 0) else ([], (lexGo ls f p []).2.1, (lexGo ls f p []).2.2)
  | 0, p, acc => by simp [lexGo]
  | f + 1, p, acc => by
    by_cases hlt : p < ls.length
    · rw [lexGo_step ls f p acc hlt, lexGo_step ls f p [] hlt]
      by_cases h0 : (tokAns ls p).err = 0
      · rw [if_pos h0, if_pos h0]
        rw [lexGo_acc ls f _ (acc ++ [(tokAns ls p).tok]), lexGo_acc ls f _ ([] ++ [(tokAns ls p).tok])]
        split
        · rename_i h1
          simp
        · rename_i h1
          simp only [h1, if_false]
      · rw [if_neg h0, if_neg h0]
        simp only [h0, if_false]
    · rw [lexGo_end _ _ _ _ hlt, lexGo_end _ _ _ _ hlt]
      simp
theorem tokAns_a (ls : List Let) (p : Nat) (hp : p < ls.length) (h : (tokAns ls p).err = 0) : (tokAns ls p).tok.a = p := by
  unfold tokAns at h ⊢
  rw [drop_at ls p hp] at h ⊢
  simp only at h ⊢
  split
  · rfl
  split
  · rfl
  rename_i h40 h41
  rw [if_neg h40, if_neg h41] at h
  split
  · rename_i h34
    rw [if_pos h34] at h
    unfold textAns at h ⊢
    cases ht : textL (ls.length + 1) (ls.drop (p + 1)) with
    | none => rw [ht] at h; simp at h
    | some q =>
      rw [ht] at h
      simp only at h ⊢
      split at h
      · simp at h
      rename_i hb
      split at h
      · simp at h
      rename_i hc
      rw [if_neg hb, if_neg hc]
  · rename_i h34
    rw [if_neg h34] at h
    simp only [wordAns] at h ⊢
    split at h
    · simp at h
    rename_i hb
    split at h
    · rename_i hc
      rw [if_neg hb, if_pos hc]
    · rename_i hc
      exact absurd h hc
/-- The next token, and the place behind it and its blanks. -/
theorem lexGo_next (ls : List Let) (f p : Nat) (acc ts : List Tok) (hp : p < ls.length) (hg : Good ls p) (h : lexGo ls (f + 1) p acc = (ts, 0, 0)) :
    ∃ (t : Tok) (p' : Nat), t.a = p ∧ lexGo ls f p' (acc ++ [t]) = (ts, 0, 0) ∧ p < p' ∧ p' ≤ ls.length ∧ Good ls p' := by
  rw [lexGo_step ls f p acc hp] at h
  by_cases h0 : (tokAns ls p).err = 0
  · rw [if_pos h0] at h
    obtain ⟨e, he, he1, he2⟩ := tokAns_fin ls p hp (hg hp).1 (hg hp).2 h0
    rw [he, Int.toNat_natCast] at h
    have hs := skipL_le false (ls.drop e)
    rw [List.length_drop] at hs
    exact ⟨(tokAns ls p).tok, _, tokAns_a ls p hp h0, h, by omega, by omega, good_skip ls e he2⟩
  · rw [if_neg h0] at h
    simp only [Prod.mk.injEq] at h
    exact absurd h.2.1 h0
theorem lexGo_pre (ls : List Let) (f p : Nat) (acc ts : List Tok) (h : lexGo ls f p acc = (ts, 0, 0)) : ∃ r, ts = acc ++ r ∧ lexGo ls f p [] = (r, 0, 0) := by
  rw [lexGo_acc] at h
  by_cases h0 : (lexGo ls f p []).2.1 = 0
  · rw [if_pos h0] at h
    simp only [Prod.mk.injEq, and_true] at h
    have h2 := lexGo_acc ls f p []
    rw [if_pos h0] at h2
    refine ⟨_, h.symm, ?_⟩
    rw [h2]
  · rw [if_neg h0] at h
    simp only [Prod.mk.injEq] at h
    exact absurd h.2.1 h0
theorem skip_good (ls : List Let) (p : Nat) (hp : p < ls.length) (hg : Good ls p) : skipL false (ls.drop p) = 0 := by
  rw [drop_at ls p hp]
  have := hg hp
  simp [skipL, this.1, this.2]
/-- What is read from a token's place on: that token, and those behind it, their places counted from there. -/
theorem lex_from (ls : List Let) (f p : Nat) (acc ts : List Tok) (hp : p < ls.length) (hf : ls.length < p + f) (hg : Good ls p) (h : lexGo ls f p acc = (ts, 0, 0)) :
    ∃ r, lexGo (ls.drop p) ((ls.drop p).length + 1) (skipL false (ls.drop p)) [] = (r, 0, 0) ∧ ts = acc ++ r.map (shT p) := by
  obtain ⟨r0, hr0, h0⟩ := lexGo_pre ls f p acc ts h
  have hpl : (ls.take p).length = p := by rw [List.length_take]; omega
  have hg' : Good (ls.drop p) 0 := fun hh => by
    have := hg hp
    simpa using this
  have hs := lexGo_shift (ls.take p) (ls.drop p) f ((ls.drop p).length + 1) 0 [] (by rw [List.length_drop]; omega) (by omega) hg' (by omega)
  rw [List.take_append_drop, hpl, Nat.add_zero, List.map_nil, h0] at hs
  rw [skip_good ls p hp hg]
  obtain ⟨⟨r, er, pl⟩, hR⟩ : ∃ R, lexGo (ls.drop p) ((ls.drop p).length + 1) 0 [] = R := ⟨_, rfl⟩
  rw [hR] at hs ⊢
  simp only at hs
  by_cases he : er = 0
  · subst he
    rw [if_pos rfl] at hs
    simp only [Prod.mk.injEq, and_true] at hs
    have h2 := lexGo_acc (ls.drop p) ((ls.drop p).length + 1) 0 []
    rw [hR] at h2
    simp only [if_true, List.nil_append, Prod.mk.injEq, true_and] at h2
    refine ⟨r, by rw [h2], by rw [hr0, hs]⟩
  · rw [if_neg he] at hs
    simp only [Prod.mk.injEq] at hs
    exact absurd hs.2.1.symm he
theorem lexGo_fail (ls : List Let) : ∀ (f p : Nat) (acc : List Tok), (lexGo ls f p acc).2.1 ≠ 0 → (lexGo ls f p acc).1 = [] ∧ ∃ q : Nat, (lexGo ls f p acc).2.2 = q ∧ q < ls.length
  | 0, p, acc, h => by simp [lexGo] at h
  | f + 1, p, acc, h => by
    by_cases hlt : p < ls.length
    · rw [lexGo_step ls f p acc hlt] at h ⊢
      by_cases h0 : (tokAns ls p).err = 0
      · rw [if_pos h0] at h ⊢
        exact lexGo_fail ls f _ _ h
      · rw [if_neg h0]
        exact ⟨rfl, p, rfl, hlt⟩
    · rw [lexGo_end _ _ _ _ hlt] at h
      simp at h
/-- Where a text has no tokens, none are told, and a place within it. -/
theorem lexP_fail (l : List UInt8) (h : (lexP l).2.1 ≠ 0) : (lexP l).1 = [] ∧ 0 ≤ (lexP l).2.2 ∧ (lexP l).2.2 ≤ l.length := by
  unfold lexP at h ⊢
  split
  · simp
  · rename_i hl
    rw [if_neg hl] at h
    obtain ⟨h1, q, h2, h3⟩ := lexGo_fail _ _ _ _ h
    have := letL_le l.length l
    unfold lets at h2 h3 h1 ⊢
    refine ⟨h1, ?_, ?_⟩ <;> rw [h2] <;> omega
/-- The letters from a byte on at which one begins. -/
theorem lets_step (l : List UInt8) (i k : Nat) (ls : List Let) (h : lets (l.drop i) = ls.drop k) (hi : i < l.length) : lets (l.drop (i + (decodeL (l.drop i)).2)) = ls.drop (k + 1) ∧ k < ls.length := by
  have hne : l.drop i ≠ [] := by
    intro e
    have := congrArg List.length e
    rw [List.length_drop] at this
    simp at this
    omega
  rw [lets_cons _ hne, List.drop_drop] at h
  have hk : k < ls.length := by
    rcases Nat.lt_or_ge k ls.length with h' | h'
    · exact h'
    · rw [List.drop_of_length_le h'] at h; cases h
  rw [drop_at ls k hk] at h
  injection h with _ h
  exact ⟨h, hk⟩
end Go.Proofs.YtimnnebmjapneaaDoor
