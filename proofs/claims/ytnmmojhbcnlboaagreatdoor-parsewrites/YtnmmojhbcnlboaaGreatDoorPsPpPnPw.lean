/- Tokens of a text that stands behind another one: as they were, but for their places. No walk stands in this text. -/
import Derived.Test.YtnmmojhbcnlboaaGreatDoorLm
import Derived.Lib.MapLaws
namespace Go.Proofs.YtnmmojhbcnlboaaGreatDoor
open Go.RowKit Go.Lib Go.Sort
set_option linter.unusedVariables false
set_option linter.unusedSimpArgs false

/-- How much is read of a text does not hang on the count of steps, where it is enough. -/
theorem textL_fuel : ∀ (f g : Nat) (l : List Let), l.length < f → l.length < g → textL f l = textL g l
  | 0, _, l, h, _ => by omega
  | _, 0, l, _, h => by omega
  | f + 1, g + 1, [], _, _ => rfl
  | f + 1, g + 1, x :: l, h, h' => by
    simp only [List.length_cons] at h h'
    simp only [textL]
    split
    · rfl
    split
    · cases he : escL l with
      | none => rfl
      | some p =>
        have := escL_le he
        simp only
        rw [textL_fuel f g (l.drop p.2) (by rw [List.length_drop]; omega) (by rw [List.length_drop]; omega)]
    · rw [textL_fuel f g l (by omega) (by omega)]
def shT (n : Nat) (t : Tok) : Tok := { t with a := t.a + n }
def shA (n : Nat) (x : Ans) : Ans := if x.err = 0 then ⟨shT n x.tok, x.fin + n, 0⟩ else x
theorem drop_pre (pre ls : List Let) (p : Nat) : (pre ++ ls).drop (pre.length + p) = ls.drop p := by
  rw [← List.drop_drop, List.drop_left]
theorem word_err (ls : List Let) (p : Nat) : (wordAns ls p).err ≠ 0 → (wordAns ls p) = ⟨noTok, 0, (wordAns ls p).err⟩ := by
  simp only [wordAns]
  split
  · intro _; rfl
  split
  · intro h; exact absurd rfl h
  · intro _; rfl
theorem wordAns_shift (pre ls : List Let) (p : Nat) : wordAns (pre ++ ls) (pre.length + p) = shA pre.length (wordAns ls p) := by
  simp only [wordAns, drop_pre]
  split
  · rfl
  split
  · simp only [shA, shT, if_true]
    congr 1
    · simp only [Tok.mk.injEq, true_and]; omega
    · omega
  · rename_i h; simp [shA, h]
theorem textAns_shift (pre ls : List Let) (p : Nat) (hp : p < ls.length) : textAns (pre ++ ls) (pre.length + p) = shA pre.length (textAns ls p) := by
  unfold textAns
  rw [show pre.length + p + 1 = pre.length + (p + 1) by omega, drop_pre, textL_fuel ((pre ++ ls).length + 1) (ls.length + 1) _ (by rw [List.length_drop, List.length_append]; omega) (by rw [List.length_drop]; omega)]
  cases textL (ls.length + 1) (ls.drop (p + 1)) with
  | none => rfl
  | some q =>
    simp only
    split
    · rfl
    split
    · rfl
    · simp only [shA, shT, if_true]
      congr 1
      · simp only [Tok.mk.injEq, true_and]; omega
      · omega
theorem tokAns_shift (pre ls : List Let) (p : Nat) (hp : p < ls.length) : tokAns (pre ++ ls) (pre.length + p) = shA pre.length (tokAns ls p) := by
  unfold tokAns
  rw [drop_pre, drop_at ls p hp]
  simp only
  split
  · simp only [shA, shT, if_true]
    congr 1
    · simp only [Tok.mk.injEq, true_and]; omega
    · omega
  split
  · simp only [shA, shT, if_true]
    congr 1
    · simp only [Tok.mk.injEq, true_and]; omega
    · omega
  split
  · exact textAns_shift pre ls p hp
  · exact wordAns_shift pre ls p
theorem shA_err (n : Nat) (x : Ans) : (shA n x).err = x.err := by
  unfold shA
  split
  · rename_i h; exact h.symm
  · rfl
/-- A place at which a token may begin, or the end. -/
def Good (ls : List Let) (p : Nat) : Prop := ∀ h : p < ls.length, isBl ls[p].1 = false ∧ ls[p].1 ≠ 59
theorem good_skip (ls : List Let) (e : Nat) (he : e ≤ ls.length) : Good ls (e + skipL false (ls.drop e)) := fun h => skipL_at ls e ls.length (by omega) h
theorem lexGo_shift (pre ls : List Let) : ∀ (f g p : Nat) (acc : List Tok), ls.length < p + f → ls.length < p + g → Good ls p → p ≤ ls.length →
    lexGo (pre ++ ls) f (pre.length + p) (acc.map (shT pre.length)) = if (lexGo ls g p acc).2.1 = 0 then ((lexGo ls g p acc).1.map (shT pre.length), 0, 0) else ([], (lexGo ls g p acc).2.1, (lexGo ls g p acc).2.2 + pre.length)
  | 0, g, p, acc, hf, hg, hgood, hp => by
    have : p = ls.length := by omega
    omega
  | f + 1, 0, p, acc, hf, hg, hgood, hp => by omega
  | f + 1, g + 1, p, acc, hf, hg, hgood, hp => by
    by_cases hlt : p < ls.length
    · rw [lexGo_step _ _ _ _ (by rw [List.length_append]; omega), lexGo_step ls g p acc hlt, tokAns_shift pre ls p hlt, shA_err]
      by_cases h0 : (tokAns ls p).err = 0
      · rw [if_pos h0, if_pos h0]
        obtain ⟨e, he, he1, he2⟩ := tokAns_fin ls p hlt (hgood hlt).1 (hgood hlt).2 h0
        have hfin : (shA pre.length (tokAns ls p)).fin = ((pre.length + e : Nat) : Int) := by simp only [shA, h0, if_true, he]; omega
        have htok : (shA pre.length (tokAns ls p)).tok = shT pre.length (tokAns ls p).tok := by simp only [shA, h0, if_true]
        rw [hfin, htok, he, Int.toNat_natCast, Int.toNat_natCast, drop_pre]
        have := lexGo_shift pre ls f g (e + skipL false (ls.drop e)) (acc ++ [(tokAns ls p).tok]) (by omega) (by omega) (good_skip ls e he2) (by have := skipL_le false (ls.drop e); rw [List.length_drop] at this; omega)
        rw [List.map_append] at this
        rw [show pre.length + e + skipL false (ls.drop e) = pre.length + (e + skipL false (ls.drop e)) by omega]
        exact this
      · rw [if_neg h0, if_neg h0]
        simp only [h0, if_false]
        congr 2
        omega
    · rw [lexGo_end _ _ _ _ (by rw [List.length_append]; omega), lexGo_end _ _ _ _ hlt]
      simp
end Go.Proofs.YtnmmojhbcnlboaaGreatDoor
/- What Lex reads from a token's place on. No walk stands in this text. -/
namespace Go.Proofs.YtnmmojhbcnlboaaGreatDoor
open Go.RowKit Go.Lib Go.Sort
set_option linter.unusedVariables false
set_option linter.unusedSimpArgs false

theorem lexGo_acc (ls : List Let) : ∀ (f p : Nat) (acc : List Tok), lexGo ls f p acc = if (lexGo ls f p []).2.1 = 0 then (acc ++ (lexGo ls f p []).1, 0, 0) else ([], (lexGo ls f p []).2.1, (lexGo ls f p []).2.2)
  | 0, p, acc => by simp [lexGo]
  | f + 1, p, acc => by
    by_cases hlt : p < ls.length
    · rw [lexGo_step ls f p acc hlt, lexGo_step ls f p [] hlt]
      by_cases h0 : (tokAns ls p).err = 0
      · rw [if_pos h0, if_pos h0]
        rw [lexGo_acc ls f _ (acc ++ [(tokAns ls p).tok]), lexGo_acc ls f _ ([] ++ [(tokAns ls p).tok])]
        split
        · rename_i h1
          simp
        · rename_i h1
          simp only [h1, if_false]
      · rw [if_neg h0, if_neg h0]
        simp only [h0, if_false]
    · rw [lexGo_end _ _ _ _ hlt, lexGo_end _ _ _ _ hlt]
      simp
theorem tokAns_a (ls : List Let) (p : Nat) (hp : p < ls.length) (h : (tokAns ls p).err = 0) : (tokAns ls p).tok.a = p := by
  unfold tokAns at h ⊢
  rw [drop_at ls p hp] at h ⊢
  simp only at h ⊢
  split
  · rfl
  split
  · rfl
  rename_i h40 h41
  rw [if_neg h40, if_neg h41] at h
  split
  · rename_i h34
    rw [if_pos h34] at h
    unfold textAns at h ⊢
    cases ht : textL (ls.length + 1) (ls.drop (p + 1)) with
    | none => rw [ht] at h; simp at h
    | some q =>
      rw [ht] at h
      simp only at h ⊢
      split at h
      · simp at h
      rename_i hb
      split at h
      · simp at h
      rename_i hc
      rw [if_neg hb, if_neg hc]
  · rename_i h34
    rw [if_neg h34] at h
    simp only [wordAns] at h ⊢
    split at h
    · simp at h
    rename_i hb
    split at h
    · rename_i hc
      rw [if_neg hb, if_pos hc]
    · rename_i hc
      exact absurd h hc
/-- The next token, and the place behind it and its blanks. -/
theorem lexGo_next (ls : List Let) (f p : Nat) (acc ts : List Tok) (hp : p < ls.length) (hg : Good ls p) (h : lexGo ls (f + 1) p acc = (ts, 0, 0)) :
    ∃ (t : Tok) (p' : Nat), t.a = p ∧ lexGo ls f p' (acc ++ [t]) = (ts, 0, 0) ∧ p < p' ∧ p' ≤ ls.length ∧ Good ls p' := by
  rw [lexGo_step ls f p acc hp] at h
  by_cases h0 : (tokAns ls p).err = 0
  · rw [if_pos h0] at h
    obtain ⟨e, he, he1, he2⟩ := tokAns_fin ls p hp (hg hp).1 (hg hp).2 h0
    rw [he, Int.toNat_natCast] at h
    have hs := skipL_le false (ls.drop e)
    rw [List.length_drop] at hs
    exact ⟨(tokAns ls p).tok, _, tokAns_a ls p hp h0, h, by omega, by omega, good_skip ls e he2⟩
  · rw [if_neg h0] at h
    simp only [Prod.mk.injEq] at h
    exact absurd h.2.1 h0
theorem lexGo_pre (ls : List Let) (f p : Nat) (acc ts : List Tok) (h : lexGo ls f p acc = (ts, 0, 0)) : ∃ r, ts = acc ++ r ∧ lexGo ls f p [] = (r, 0, 0) := by
  rw [lexGo_acc] at h
  by_cases h0 : (lexGo ls f p []).2.1 = 0
  · rw [if_pos h0] at h
    simp only [Prod.mk.injEq, and_true] at h
    have h2 := lexGo_acc ls f p []
    rw [if_pos h0] at h2
    refine ⟨_, h.symm, ?_⟩
    rw [h2]
  · rw [if_neg h0] at h
    simp only [Prod.mk.injEq] at h
    exact absurd h.2.1 h0
theorem skip_good (ls : List Let) (p : Nat) (hp : p < ls.length) (hg : Good ls p) : skipL false (ls.drop p) = 0 := by
  rw [drop_at ls p hp]
  have := hg hp
  simp [skipL, this.1, this.2]
/-- What is read from a token's place on: that token, and those behind it, their places counted from there. -/
theorem lex_from (ls : List Let) (f p : Nat) (acc ts : List Tok) (hp : p < ls.length) (hf : ls.length < p + f) (hg : Good ls p) (h : lexGo ls f p acc = (ts, 0, 0)) :
    ∃ r, lexGo (ls.drop p) ((ls.drop p).length + 1) (skipL false (ls.drop p)) [] = (r, 0, 0) ∧ ts = acc ++ r.map (shT p) := by
  obtain ⟨r0, hr0, h0⟩ := lexGo_pre ls f p acc ts h
  have hpl : (ls.take p).length = p := by rw [List.length_take]; omega
  have hg' : Good (ls.drop p) 0 := fun hh => by
    have := hg hp
    simpa using this
  have hs := lexGo_shift (ls.take p) (ls.drop p) f ((ls.drop p).length + 1) 0 [] (by rw [List.length_drop]; omega) (by omega) hg' (by omega)
  rw [List.take_append_drop, hpl, Nat.add_zero, List.map_nil, h0] at hs
  rw [skip_good ls p hp hg]
  obtain ⟨⟨r, er, pl⟩, hR⟩ : ∃ R, lexGo (ls.drop p) ((ls.drop p).length + 1) 0 [] = R := ⟨_, rfl⟩
  rw [hR] at hs ⊢
  simp only at hs
  by_cases he : er = 0
  · subst he
    rw [if_pos rfl] at hs
    simp only [Prod.mk.injEq, and_true] at hs
    have h2 := lexGo_acc (ls.drop p) ((ls.drop p).length + 1) 0 []
    rw [hR] at h2
    simp only [if_true, List.nil_append, Prod.mk.injEq, true_and] at h2
    refine ⟨r, by rw [h2], by rw [hr0, hs]⟩
  · rw [if_neg he] at hs
    simp only [Prod.mk.injEq] at hs
    exact absurd hs.2.1.symm he
theorem lexGo_fail (ls : List Let) : ∀ (f p : Nat) (acc : List Tok), (lexGo ls f p acc).2.1 ≠ 0 → (lexGo ls f p acc).1 = [] ∧ ∃ q : Nat, (lexGo ls f p acc).2.2 = q ∧ q < ls.length
  | 0, p, acc, h => by simp [lexGo] at h
  | f + 1, p, acc, h => by
    by_cases hlt : p < ls.length
    · rw [lexGo_step ls f p acc hlt] at h ⊢
      by_cases h0 : (tokAns ls p).err = 0
      · rw [if_pos h0] at h ⊢
        exact lexGo_fail ls f _ _ h
      · rw [if_neg h0]
        exact ⟨rfl, p, rfl, hlt⟩
    · rw [lexGo_end _ _ _ _ hlt] at h
      simp at h
/-- Where a text has no tokens, none are told, and a place within it. -/
theorem lexP_fail (l : List UInt8) (h : (lexP l).2.1 ≠ 0) : (lexP l).1 = [] ∧ 0 ≤ (lexP l).2.2 ∧ (lexP l).2.2 ≤ l.length := by
  unfold lexP at h ⊢
  split
  · simp
  · rename_i hl
    rw [if_neg hl] at h
    obtain ⟨h1, q, h2, h3⟩ := lexGo_fail _ _ _ _ h
    have := letL_le l.length l
    unfold lets at h2 h3 h1 ⊢
    refine ⟨h1, ?_, ?_⟩ <;> rw [h2] <;> omega
/-- The letters from a byte on at which one begins. -/
theorem lets_step (l : List UInt8) (i k : Nat) (ls : List Let) (h : lets (l.drop i) = ls.drop k) (hi : i < l.length) : lets (l.drop (i + (decodeL (l.drop i)).2)) = ls.drop (k + 1) ∧ k < ls.length := by
  have hne : l.drop i ≠ [] := by
    intro e
    have := congrArg List.length e
    rw [List.length_drop] at this
    simp at this
    omega
  rw [lets_cons _ hne, List.drop_drop] at h
  have hk : k < ls.length := by
    rcases Nat.lt_or_ge k ls.length with h' | h'
    · exact h'
    · rw [List.drop_of_length_le h'] at h; cases h
  rw [drop_at ls k hk] at h
  injection h with _ h
  exact ⟨h, hk⟩
end Go.Proofs.YtnmmojhbcnlboaaGreatDoor
/- A note ahead of a text: its letters, its tokens. No walk stands in this text. -/
namespace Go.Proofs.YtnmmojhbcnlboaaGreatDoor
open Go.RowKit Go.Lib Go.Sort
set_option linter.unusedVariables false
set_option linter.unusedSimpArgs false

def okR (r : Nat) : Prop := r < 55296 ∨ (57344 ≤ r ∧ r ≤ 1114111)
theorem okR_of (l : List UInt8) : okR (decodeL l).1 := by
  rw [decodeL_N]
  unfold okR
  rcases decodeN_shape l.length (l.getD 0 0).toNat (l.getD 1 0).toNat (l.getD 2 0).toNat (l.getD 3 0).toNat with ⟨h, e⟩ | ⟨h0, h1, h2, h3, e⟩ | ⟨h0, h1, h2, h3, h4, h5, e⟩ | ⟨h0, h1, h2, h3, h4, h5, h6, e⟩ | e
  all_goals rw [e]; simp only; omega
theorem dec2 (n r b2 b3 : Nat) (h : 1 < n) (h1 : 128 ≤ r) (h2 : r < 2048) : decodeN n (192 + r / 64) (128 + r % 64) b2 b3 = (r, 2) := by
  unfold decodeN
  rw [if_neg (by omega), if_pos (by omega), if_pos (by omega)]
  exact Prod.ext (by simp only; omega) rfl
theorem dec3 (n r b3 : Nat) (h : 2 < n) (h1 : 2048 ≤ r) (h2 : r < 65536) (h3 : okR r) : decodeN n (224 + r / 4096) (128 + r / 64 % 64) (128 + r % 64) b3 = (r, 3) := by
  unfold okR at h3
  unfold decodeN
  rw [if_neg (by omega), if_neg (by omega), if_pos (by omega), if_pos (by omega)]
  exact Prod.ext (by simp only; omega) rfl
theorem dec4 (n r : Nat) (h : 3 < n) (h1 : 65536 ≤ r) (h2 : r ≤ 1114111) : decodeN n (240 + r / 262144) (128 + r / 4096 % 64) (128 + r / 64 % 64) (128 + r % 64) = (r, 4) := by
  unfold decodeN
  rw [if_neg (by omega), if_neg (by omega), if_neg (by omega), if_pos (by omega), if_pos (by omega)]
  exact Prod.ext (by simp only; omega) rfl
theorem dec_enc (r : Nat) (hv : okR r) (m : List UInt8) : decodeL ((Utf8.encode r).data.toList ++ m) = (r, (Utf8.encode r).data.toList.length) := by
  have v : Utf8.valid (r : Int) = true := by unfold okR at hv; simp [Utf8.valid]; omega
  have tn : ∀ k, k < 256 → (UInt8.ofNat k).toNat = k := fun k h => by simp; omega
  rw [decodeL_N]
  by_cases c1 : r < 128
  · simp only [Utf8.encode, v, if_true, Int.toNat_natCast, c1]
    simp only [List.getD, List.cons_append, List.nil_append, List.getElem?_cons_zero, Option.getD_some]
    rw [tn r (by omega)]
    exact decodeN_ascii _ _ _ _ _ c1
  by_cases c2 : r < 2048
  · simp only [Utf8.encode, v, if_true, Int.toNat_natCast, c1, c2, if_false]
    simp only [List.getD, List.cons_append, List.nil_append, List.getElem?_cons_zero, List.getElem?_cons_succ, Option.getD_some]
    rw [tn _ (by omega), tn _ (by omega)]
    exact dec2 _ r _ _ (by simp) (by omega) c2
  by_cases c3 : r < 65536
  · simp only [Utf8.encode, v, if_true, Int.toNat_natCast, c1, c2, c3, if_false]
    simp only [List.getD, List.cons_append, List.nil_append, List.getElem?_cons_zero, List.getElem?_cons_succ, Option.getD_some]
    rw [tn _ (by omega), tn _ (by omega), tn _ (by omega)]
    exact dec3 _ r _ (by simp) (by omega) c3 hv
  · unfold okR at hv
    simp only [Utf8.encode, v, if_true, Int.toNat_natCast, c1, c2, c3, if_false]
    simp only [List.getD, List.cons_append, List.nil_append, List.getElem?_cons_zero, List.getElem?_cons_succ, Option.getD_some]
    rw [tn _ (by omega), tn _ (by omega), tn _ (by omega), tn _ (by omega)]
    exact dec4 _ r (by simp) (by omega) (by omega)
def nls (rs : List Nat) : List Let := rs.map fun (r : Nat) => (((r : Nat) : Int), false)
/-- What stands ahead: its letters are these, whatever stands behind. -/
def Front (F : List UInt8) (rs : List Nat) : Prop := (∀ r ∈ rs, r ≠ 10) ∧ ∀ m, lets (F ++ m) = (59, false) :: nls rs ++ lets m
theorem front_one : Front [59] [] := by
  refine ⟨fun r h => (by cases h), fun m => ?_⟩
  have hd : decodeL (59 :: m) = (59, 1) := by rw [decodeL_N]; simp [decodeN]
  have hb : badL (59 :: m) = false := by simp [badL, hd]
  show lets (59 :: m) = _
  rw [lets_cons _ (by simp), hd, hb]
  rfl
theorem front_step (F : List UInt8) (rs : List Nat) (r : Nat) (h : Front F rs) (hv : okR r) (h10 : r ≠ 10) (hb : r ≠ 65533) : Front (F ++ (Utf8.encode r).data.toList) (rs ++ [r]) := by
  refine ⟨fun x hx => ?_, fun m => ?_⟩
  · rcases List.mem_append.1 hx with h1 | h1
    · exact h.1 x h1
    · rw [List.mem_singleton.1 h1]; exact h10
  · have hd := dec_enc r hv m
    have hne : (Utf8.encode r).data.toList ++ m ≠ [] := by
      intro e
      have hw := Lib.decodeL_width ((Utf8.encode r).data.toList ++ m)
      rw [hd] at hw
      have := congrArg List.length e
      rw [List.length_append] at this
      simp only [List.length_nil] at this
      simp only at hw
      omega
    have hbd : badL ((Utf8.encode r).data.toList ++ m) = false := by
      unfold badL
      rw [hd]
      simp only [decide_eq_false hb, Bool.false_and]
    rw [List.append_assoc, h.2, lets_cons _ hne, hd, hbd, List.drop_left]
    simp [nls]
theorem skip_rem : ∀ (rs : List Nat) (ls : List Let), (∀ r ∈ rs, r ≠ 10) → skipL true (nls rs ++ (10, false) :: ls) = rs.length + 1 + skipL false ls
  | [], ls, _ => by simp [nls, skipL]; omega
  | r :: rs, ls, h => by
    have h1 : r ≠ 10 := h r (by simp)
    have h2 : ((r : Int)) ≠ 10 := by omega
    have ih := skip_rem rs ls fun x hx => h x (by simp [hx])
    unfold nls at ih ⊢
    simp only [List.map_cons, List.cons_append, skipL, h2, if_false, List.length_cons]
    rw [ih]
    omega
/-- A note ahead of a text changes no token but its place. -/
theorem lex_notes (F l : List UInt8) (rs : List Nat) (h : Front F rs) (hl : (F ++ [10] ++ l).length ≤ 2048) : lexP (F ++ [10] ++ l) = if (lexP l).2.1 = 0 then ((lexP l).1.map (shT (rs.length + 2)), 0, 0) else ([], (lexP l).2.1, (lexP l).2.2 + (rs.length + 2 : Nat)) := by
  have hl2 : ¬ 2048 < l.length := by simp only [List.length_append] at hl; omega
  have h1 : lexP l = lexGo (lets l) ((lets l).length + 1) (skipL false (lets l)) [] := by unfold lexP; rw [if_neg hl2]
  have h2 : lexP (F ++ [10] ++ l) = lexGo (lets (F ++ [10] ++ l)) ((lets (F ++ [10] ++ l)).length + 1) (skipL false (lets (F ++ [10] ++ l))) [] := by unfold lexP; rw [if_neg (by omega)]
  have h3 : lets (F ++ [10] ++ l) = ((59, false) :: nls rs ++ [(10, false)]) ++ lets l := by
    have hd : decodeL (10 :: l) = (10, 1) := by rw [decodeL_N]; simp [decodeN]
    have hb : badL (10 :: l) = false := by simp [badL, hd]
    rw [List.append_assoc, h.2]
    show _ ++ lets (10 :: l) = _
    rw [lets_cons _ (by simp), hd, hb]
    simp
  rw [h1, h2, h3]
  generalize lets l = ls
  have hsk : skipL false (((59, false) :: nls rs ++ [(10, false)]) ++ ls) = rs.length + 2 + skipL false ls := by
    have := skip_rem rs ls h.1
    simp only [List.cons_append, List.append_assoc, List.nil_append, skipL, isBl]
    simp only [this]
    simp
    omega
  have hpl : ((59, false) :: nls rs ++ [(10, false)] : List Let).length = rs.length + 2 := by simp [nls]
  rw [hsk]
  have hs0 := skipL_le false ls
  have hg0 := good_skip ls 0 (by omega)
  rw [List.drop_zero, Nat.zero_add] at hg0
  have := lexGo_shift ((59, false) :: nls rs ++ [(10, false)]) ls ((((59, false) :: nls rs ++ [(10, false)]) ++ ls).length + 1) (ls.length + 1) (skipL false ls) [] (by rw [List.length_append]; omega) (by omega) hg0 hs0
  rw [hpl, List.map_nil] at this
  exact this
end Go.Proofs.YtnmmojhbcnlboaaGreatDoor
/- The law LexQuotes returns true. -/
namespace Go.Proofs.YtnmmojhbcnlboaaGreatDoor
open Go.RowKit Go.Lib Go.Sort
set_option linter.unusedVariables false
set_option linter.unusedSimpArgs false
attribute [local go_sem ↓] Go.wp_at_zero Go.wp_at_succ

theorem enc_some (r : Int) : 1 ≤ (Utf8.encode r).size ∧ (Utf8.encode r).size ≤ 4 := by
  unfold Utf8.encode
  generalize (if Utf8.valid r = true then r.toNat else Utf8.runeError) = c
  simp only
  split
  · exact ⟨Nat.le_refl 1, by show 1 ≤ 4; omega⟩
  split
  · exact ⟨by show 1 ≤ 2; omega, by show 2 ≤ 4; omega⟩
  split
  · exact ⟨by show 1 ≤ 3; omega, by show 3 ≤ 4; omega⟩
  · exact ⟨by show 1 ≤ 4; omega, by show 4 ≤ 4; omega⟩
theorem same_of {x y : Tok} (h : sameTok x y = true) : x = y := by
  obtain ⟨k, t, n, a⟩ := x
  obtain ⟨k', t', n', a'⟩ := y
  simp only [sameTok, Bool.and_eq_true, decide_eq_true_eq] at h
  obtain ⟨⟨⟨rfl, rfl⟩, rfl⟩, rfl⟩ := h
  rfl
/-- What is shown is read as the token. -/
theorem reads_of {l : List UInt8} {t : Tok} (h : readsP l t = true) : ∃ p pl, lexP l = ([{ t with a := p }], 0, pl) := by
  unfold readsP at h
  split at h
  · rename_i h0
    split at h
    · rename_i x hx
      have := same_of h
      obtain ⟨⟨ts, er, pl⟩, hP⟩ : ∃ P, lexP l = P := ⟨_, rfl⟩
      rw [hP] at h0 hx
      simp only at h0 hx
      rw [hP, hx, h0]
      exact ⟨x.a, pl, by rw [← this]⟩
    · cases h
  · cases h
theorem show_cases (t : Tok) : ((showP t).2 ≠ 0 ∧ (showP t).1 = []) ∨ ((showP t).2 = 0 ∧ readsP (showP t).1 t = true ∧ (showP t).1 = writeP t ∧ t.t.length ≤ 256) := by
  unfold showP
  split
  · left; simp
  · split
    · rename_i h1 h2; right; exact ⟨rfl, h2, rfl, by omega⟩
    · left; simp
end Go.Proofs.YtnmmojhbcnlboaaGreatDoor
