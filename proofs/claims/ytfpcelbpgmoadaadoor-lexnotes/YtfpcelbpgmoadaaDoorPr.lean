/- A text in brackets: its tokens. No walk stands in this text. -/
import Derived.Test.YtfpcelbpgmoadaaDoorPq
namespace Go.Proofs.YtfpcelbpgmoadaaDoor
open Go.RowKit Go.Lib Go.Sort
set_option linter.unusedVariables false
set_option linter.unusedSimpArgs false

theorem drop_line (ls : List Let) (p : Nat) (h : p ≤ ls.length) : (ls ++ tailL).drop p = ls.drop p ++ tailL := List.drop_append_of_le_length h
theorem wordAns_line (ls : List Let) (p : Nat) (hp : p ≤ ls.length) : wordAns (ls ++ tailL) p = wordAns ls p := by
  have hw := wlen_le (ls.drop p)
  simp only [wordAns, drop_line ls p hp, wlen_line]
  rw [List.take_append_of_le_length hw]
theorem textAns_line (ls : List Let) (p : Nat) (hp : p < ls.length) : textAns (ls ++ tailL) p = textAns ls p := by
  unfold textAns
  rw [drop_line ls (p + 1) (by omega), textL_line, textL_fuel ((ls ++ tailL).length + 1) (ls.length + 1) _ (by rw [List.length_drop, List.length_append]; omega) (by rw [List.length_drop]; omega)]
theorem tokAns_line (ls : List Let) (p : Nat) (hp : p < ls.length) : tokAns (ls ++ tailL) p = tokAns ls p := by
  unfold tokAns
  rw [drop_line ls p (by omega), drop_at ls p hp]
  simp only [List.cons_append, wordAns_line ls p (by omega), textAns_line ls p hp]
def clT (n : Nat) : Tok := ⟨2, [], 0, n⟩
theorem tail_one (ls : List Let) : (ls ++ tailL).drop (ls.length + 1) = [(41, false)] := by
  have := drop_pre ls tailL 1
  rw [this]; rfl
theorem tokAns_tail (ls : List Let) : tokAns (ls ++ tailL) (ls.length + 1) = ⟨clT (ls.length + 1), ((ls.length + 2 : Nat) : Int), 0⟩ := by
  unfold tokAns
  rw [tail_one]
  simp [clT]
  omega
theorem lexGo_tail (ls : List Let) (f : Nat) (acc : List Tok) (hf : 0 < f) : lexGo (ls ++ tailL) f (ls.length + 1) acc = (acc ++ [clT (ls.length + 1)], 0, 0) := by
  obtain ⟨f, rfl⟩ : ∃ g, f = g + 1 := ⟨f - 1, by omega⟩
  rw [lexGo_step _ _ _ _ (by simp [tailL]), tokAns_tail]
  simp only [if_true, Int.toNat_natCast]
  rw [lexGo_end _ _ _ _ (by simp [tailL])]
theorem skip_line (ls : List Let) (e : Nat) (he : e ≤ ls.length) : e + skipL false ((ls ++ tailL).drop e) = if e + skipL false (ls.drop e) = ls.length then ls.length + 1 else e + skipL false (ls.drop e) := by
  rw [drop_line ls e he, skipL_line, List.length_drop]
  by_cases h : skipL false (ls.drop e) = ls.length - e
  · rw [if_pos h, if_pos (by omega)]; omega
  · rw [if_neg h, if_neg (by omega)]
theorem lexGo_line (ls : List Let) : ∀ (f g p : Nat) (acc : List Tok), ls.length + 1 < p + f → ls.length < p + g → Good ls p → p ≤ ls.length →
    lexGo (ls ++ tailL) f (if p = ls.length then ls.length + 1 else p) acc = if (lexGo ls g p acc).2.1 = 0 then ((lexGo ls g p acc).1 ++ [clT (ls.length + 1)], 0, 0) else ([], (lexGo ls g p acc).2.1, (lexGo ls g p acc).2.2)
  | 0, g, p, acc, hf, hg, hgood, hp => by omega
  | f + 1, 0, p, acc, hf, hg, hgood, hp => by omega
  | f + 1, g + 1, p, acc, hf, hg, hgood, hp => by
    by_cases hlt : p < ls.length
    · rw [if_neg (by omega), lexGo_step _ _ _ _ (by rw [List.length_append]; omega), lexGo_step ls g p acc hlt, tokAns_line ls p hlt]
      by_cases h0 : (tokAns ls p).err = 0
      · rw [if_pos h0, if_pos h0]
        obtain ⟨e, he, he1, he2⟩ := tokAns_fin ls p hlt (hgood hlt).1 (hgood hlt).2 h0
        rw [he, Int.toNat_natCast, skip_line ls e he2]
        exact lexGo_line ls f g (e + skipL false (ls.drop e)) (acc ++ [(tokAns ls p).tok]) (by omega) (by omega) (good_skip ls e he2) (by have := skipL_le false (ls.drop e); rw [List.length_drop] at this; omega)
      · rw [if_neg h0, if_neg h0]
        simp only [h0, if_false]
    · have : p = ls.length := by omega
      subst this
      rw [if_pos rfl, lexGo_tail _ _ _ (by omega), lexGo_end _ _ _ _ hlt]
      simp
/-- A text in brackets has its tokens between a bracket's and the other's, each a place further. -/
theorem lex_brackets (l : List UInt8) (hl : l.length + 3 ≤ 2048) : lexP (40 :: (l ++ [10, 41])) = if (lexP l).2.1 = 0 then (⟨1, [], 0, 0⟩ :: (lexP l).1.map (shT 1) ++ [clT ((lets l).length + 2)], 0, 0) else ([], (lexP l).2.1, (lexP l).2.2 + 1) := by
  have hL : lets (40 :: (l ++ [10, 41])) = [(40, false)] ++ (lets l ++ tailL) := by
    rw [lets_cons _ (by simp), ← lets_line l.length l (Nat.le_refl _)]
    have hd : decodeL (40 :: (l ++ [10, 41])) = (40, 1) := by rw [decodeL_N]; simp [decodeN]
    have hb : badL (40 :: (l ++ [10, 41])) = false := by simp [badL, hd]
    rw [hd, hb]
    rfl
  have h1 : lexP l = lexGo (lets l) ((lets l).length + 1) (skipL false (lets l)) [] := by unfold lexP; rw [if_neg (by omega)]
  rw [h1]
  have h2 : lexP (40 :: (l ++ [10, 41])) = lexGo (lets (40 :: (l ++ [10, 41]))) ((lets (40 :: (l ++ [10, 41]))).length + 1) (skipL false (lets (40 :: (l ++ [10, 41])))) [] := by unfold lexP; rw [if_neg (by simp; omega)]
  rw [h2, hL]
  clear h1 h2 hL
  generalize lets l = ls at *
  have hlen : (([(40, false)] ++ (ls ++ tailL) : List Let)).length = ls.length + 3 := by simp [tailL]
  rw [hlen, show skipL false ([(40, false)] ++ (ls ++ tailL)) = 0 by simp [skipL, isBl]]
  rw [lexGo_step _ _ _ _ (by rw [hlen]; omega)]
  have ht : tokAns ([(40, false)] ++ (ls ++ tailL)) 0 = ⟨⟨1, [], 0, 0⟩, 1, 0⟩ := by simp [tokAns]
  rw [ht]
  simp only [if_true]
  rw [show ((1 : Int).toNat) = 1 from rfl, show ([(40, false)] ++ (ls ++ tailL) : List Let).drop 1 = ls ++ tailL from rfl]
  have hsk := skip_line ls 0 (by omega)
  rw [List.drop_zero, List.drop_zero, Nat.zero_add, Nat.zero_add] at hsk
  rw [hsk]
  have hs0 := skipL_le false ls
  have hg0 := good_skip ls 0 (by omega)
  rw [List.drop_zero, Nat.zero_add] at hg0
  have hgo := lexGo_line ls (ls.length + 3) (ls.length + 1) (skipL false ls) [] (by omega) (by omega) hg0 hs0
  have hgl : Good (ls ++ tailL) (if skipL false ls = ls.length then ls.length + 1 else skipL false ls) := by
    have := good_skip (ls ++ tailL) 0 (by omega)
    rw [List.drop_zero, Nat.zero_add, hsk] at this
    exact this
  have hpl : (if skipL false ls = ls.length then ls.length + 1 else skipL false ls) ≤ (ls ++ tailL).length := by
    rw [List.length_append, show tailL.length = 2 from rfl]
    split <;> omega
  have hsh := lexGo_shift [(40, false)] (ls ++ tailL) (ls.length + 3) (ls.length + 3) _ [] (by rw [List.length_append, show tailL.length = 2 from rfl]; omega) (by rw [List.length_append, show tailL.length = 2 from rfl]; omega) hgl hpl
  rw [hgo] at hsh
  rw [List.map_nil, show ([(40, false)] : List Let).length = 1 from rfl] at hsh
  rw [lexGo_acc, hsh]
  obtain ⟨⟨r, er, pl⟩, hR⟩ : ∃ R, lexGo ls (ls.length + 1) (skipL false ls) [] = R := ⟨_, rfl⟩
  rw [hR]
  simp only
  by_cases h0 : er = 0
  · subst h0
    simp [shT, clT]
    omega
  · simp [h0]
end Go.Proofs.YtfpcelbpgmoadaaDoor
