/- Tokens of a text that stands behind another one: as they were, but for their places. No walk stands in this text. -/
import Derived.Test.YtimnnebmjapneaaDoorLn
namespace Go.Proofs.YtimnnebmjapneaaDoor
open Go.RowKit Go.Lib Go.Sort
set_option linter.unusedVariables false
set_option linter.unusedSimpArgs false

/-- How much is read of a text does not hang on the count of steps, where it is enough. -/
theorem textL_fuel : ∀ (f g : Nat) (l : List Let), l.length < f → l.length < g → textL f l = textL g l
  | 0, _, l, h, _ => by omega
  | _, 0, l, _, h => by omega
  | f + 1, g + 1, [], _, _ => rfl
  | f + 1, g + 1, x :: l, h, h' => by
    simp only [List.length_cons] at h h'
    simp only [textL]
    split
    · rfl
    split
    · cases he : escL l with
      | none => rfl
      | some p =>
        have := escL_le he
        simp only
        rw [textL_fuel f g (l.drop p.2) (by rw [List.length_drop]; omega) (by rw [List.length_drop]; omega)]
    · rw [textL_fuel f g l (by omega) (by omega)]
def shT (n : Nat) (t : Tok) : Tok := { t with a := t.a + n }
def shA (n : Nat) (x : Ans) : Ans := if x.err = 0 then ⟨shT n x.tok, x.fin + n, 0⟩ else x
theorem drop_pre (pre ls : List Let) (p : Nat) : (pre ++ ls).drop (pre.length + p) = ls.drop p := by
  rw [← List.drop_drop, List.drop_left]
theorem word_err (ls : List Let) (p : Nat) : (wordAns ls p).err ≠ 0 → (wordAns ls p) = ⟨noTok, 0, (wordAns ls p).err⟩ := by
  simp only [wordAns]
  split
  · intro _; rfl
  split
  · intro h; exact absurd rfl h
  · intro _; rfl
theorem wordAns_shift (pre ls : List Let) (p : Nat) : wordAns (pre ++ ls) (pre.length + p) = shA pre.length (wordAns ls p) := by
  simp only [wordAns, drop_pre]
  split
  · rfl
  split
  · simp only [shA, shT, if_true]
    congr 1
    · simp only [Tok.mk.injEq, true_and]; omega
    · omega
  · rename_i h; simp [shA, h]
theorem textAns_shift (pre ls : List Let) (p : Nat) (hp : p < ls.length) : textAns (pre ++ ls) (pre.length + p) = shA pre.length (textAns ls p) := by
  unfold textAns
  rw [show pre.length + p + 1 = pre.length + (p + 1) by omega, drop_pre, textL_fuel ((pre ++ ls).length + 1) (ls.length + 1) _ (by rw [List.length_drop, List.length_append]; omega) (by rw [List.length_drop]; omega)]
  cases textL (ls.length + 1) (ls.drop (p + 1)) with
  | none => rfl
  | some q =>
    simp only
    split
    · rfl
    split
    · rfl
    · simp only [shA, shT, if_true]
      congr 1
      · simp only [Tok.mk.injEq, true_and]; omega
      · omega
theorem tokAns_shift (pre ls : List Let) (p : Nat) (hp : p < ls.length) : tokAns (pre ++ ls) (pre.length + p) = shA pre.length (tokAns ls p) := by
  unfold tokAns
  rw [drop_pre, drop_at ls p hp]
  simp only
  split
  · simp only [shA, shT, if_true]
    congr 1
    · simp only [Tok.mk.injEq, true_and]; omega
    · omega
  split
  · simp only [shA, shT, if_true]
    congr 1
    · simp only [Tok.mk.injEq, true_and]; omega
    · omega
  split
  · exact textAns_shift pre ls p hp
  · exact wordAns_shift pre ls p
theorem shA_err (n : Nat) (x : Ans) : (shA n x).err = x.err := by
  unfold shA
  split
  · rename_i h; exact h.symm
  · rfl
/-- A place at which a token may begin, or the end. -/
def Good (ls : List Let) (p : Nat) : Prop := ∀ h : p < ls.length, isBl ls[p].1 = false ∧ ls[p].1 ≠ 59
theorem good_skip (ls : List Let) (e : Nat) (he : e ≤ ls.length) : Good ls (e + skipL false (ls.drop e)) := fun h => skipL_at ls e ls.length (by omega) h
theorem lexGo_shift (pre ls : List Let) : ∀ (f g p : Nat) (acc : List Tok), ls.length < p + f → ls.length < p + g → Good ls p → p ≤ ls.length →
    lexGo (pre ++ ls) f (pre.length + p) (acc.map (shT pre.length)) = if (lexGo ls g p acc).2.1 = 0 then ((lexGo ls g p acc).1.map (shT pre.length), 0, 0) else ([], (lexGo ls g p acc).2.1, (lexGo ls g p acc).2.2 + pre.length)
  | 0, g, p, acc, hf, hg, hgood, hp => by
    have : p = ls.length := by omega
    omega
  | f + 1, 0, p, acc, hf, hg, hgood, hp => by omega
  | f + 1, g + 1, p, acc, hf, hg, hgood, hp => by
    by_cases hlt : p < ls.length
    · rw [lexGo_step _ _ _ _ (by rw [List.length_append]; omega), lexGo_step ls g p acc hlt, tokAns_shift pre ls p hlt, shA_err]
      by_cases h0 : (tokAns ls p).err = 0
      · rw [if_pos h0, if_pos h0]
        obtain ⟨e, he, he1, he2⟩ := tokAns_fin ls p hlt (hgood hlt).1 (hgood hlt).2 h0
        have hfin : (shA pre.length (tokAns ls p)).fin = ((pre.length + e : Nat) : Int) := by simp only [shA, h0, if_true, he]; omega
        have htok : (shA pre.length (tokAns ls p)).tok = shT pre.length (tokAns ls p).tok := by simp only [shA, h0, if_true]
        rw [hfin, htok, he, Int.toNat_natCast, Int.toNat_natCast, drop_pre]
        have := lexGo_shift pre ls f g (e + skipL false (ls.drop e)) (acc ++ [(tokAns ls p).tok]) (by omega) (by omega) (good_skip ls e he2) (by have := skipL_le false (ls.drop e); rw [List.length_drop] at this; omega)
        rw [List.map_append] at this
        rw [show pre.length + e + skipL false (ls.drop e) = pre.length + (e + skipL false (ls.drop e)) by omega]
        exact this
      · rw [if_neg h0, if_neg h0]
        simp only [h0, if_false]
        congr 2
        omega
    · rw [lexGo_end _ _ _ _ (by rw [List.length_append]; omega), lexGo_end _ _ _ _ hlt]
      simp
end Go.Proofs.YtimnnebmjapneaaDoor
