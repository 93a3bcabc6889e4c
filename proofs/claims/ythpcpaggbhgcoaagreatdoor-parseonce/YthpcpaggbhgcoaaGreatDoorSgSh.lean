/- What a query is that was read, and where a fault lies. No walk stands in this text. -/
import Derived.Test.YthpcpaggbhgcoaaGreatDoorSeSf
namespace Go.Proofs.YthpcpaggbhgcoaaGreatDoor
open Go.RowKit Go.Lib
set_option linter.unusedVariables false
set_option linter.unusedSimpArgs false
set_option linter.unusedSectionVars false
/-- A token of a text of so many letters. -/
def TokE (E : Int) (t : Tok) : Prop := I64 t.n ∧ (t.k = 3 → t.t.length ≤ 64) ∧ 0 ≤ t.a ∧ t.a ≤ E
/-- A place within, or something of this kind with such tokens left. -/
def RP {α : Type} (E : Int) (Q : α → Prop) (r : Res α) : Prop := match r with
  | .inl (_, a) => 0 ≤ a ∧ a ≤ E
  | .inr (x, s) => Q x ∧ ∀ t ∈ s.ts, TokE E t
theorem RP.and {α β : Type} {E : Int} {Q : α → Prop} {Q' : β → Prop} {r : Res α} {f : α → PS → Res β} (h : RP E Q r) (hf : ∀ x s, Q x → (∀ t ∈ s.ts, TokE E t) → RP E Q' (f x s)) : RP E Q' (andR r f) := by
  cases r with
  | inl e => exact h
  | inr p => exact hf p.1 p.2 h.1 h.2
theorem RP.mono {α : Type} {E : Int} {Q Q' : α → Prop} {r : Res α} (h : RP E Q r) (hQ : ∀ x, Q x → Q' x) : RP E Q' r := by
  cases r with
  | inl e => exact h
  | inr p => exact ⟨hQ _ h.1, h.2⟩
variable {E en : Int} (he : 0 ≤ en ∧ en ≤ E)
include he
theorem place_rp (s : PS) (hs : ∀ t ∈ s.ts, TokE E t) : 0 ≤ placeP en s ∧ placeP en s ≤ E := by
  unfold placeP
  split
  · exact he
  · rename_i t r h
    exact (hs t (by rw [h]; simp)).2.2
theorem take_rp (P : Tok → Bool) (s : PS) (hs : ∀ t ∈ s.ts, TokE E t) : RP E (fun t => TokE E t ∧ P t = true) (takeP en P s) := by
  unfold takeP
  split
  · exact place_rp he s hs
  · split
    · exact he
    · rename_i t r h
      have ht := hs t (by rw [h]; simp)
      split
      · rename_i hP
        exact ⟨⟨ht, hP⟩, fun x hx => hs x (by rw [h]; exact List.mem_cons_of_mem _ hx)⟩
      · exact ht.2.2
theorem putR_rp (l : List Stp) (x : Stp) (a : Int) (s : PS) (hl : ∀ y ∈ l, Fit y) (hx : Fit x) (ha : 0 ≤ a ∧ a ≤ E) (hs : ∀ t ∈ s.ts, TokE E t) : RP E (fun l => ∀ y ∈ l, Fit y) (putR l x a s) := by
  unfold putR
  split
  · exact ha
  · refine ⟨fun y hy => ?_, hs⟩
    rcases List.mem_append.1 hy with hy | hy
    · exact hl y hy
    · rw [List.mem_singleton.1 hy]; exact hx
theorem putN_rp : ∀ (n : Nat) (l : List Stp) (x : Stp) (a : Int) (s : PS), (∀ y ∈ l, Fit y) → Fit x → (0 ≤ a ∧ a ≤ E) → (∀ t ∈ s.ts, TokE E t) → RP E (fun l => ∀ y ∈ l, Fit y) (putN n l x a s)
  | 0, l, x, a, s, hl, hx, ha, hs => ⟨hl, hs⟩
  | n + 1, l, x, a, s, hl, hx, ha, hs => (putR_rp he l x a s hl hx ha hs).and fun l' s' h1 h2 => putN_rp n l' x a s' h1 hx ha h2
omit he in
theorem times_rp (part : List Stp → PS → Res (List Stp)) (hp : ∀ l s, (∀ y ∈ l, Fit y) → (∀ t ∈ s.ts, TokE E t) → RP E (fun l => ∀ y ∈ l, Fit y) (part l s)) : ∀ (n : Nat) (l : List Stp) (s : PS), (∀ y ∈ l, Fit y) → (∀ t ∈ s.ts, TokE E t) → RP E (fun l => ∀ y ∈ l, Fit y) (timesR part n l s)
  | 0, l, s, hl, hs => ⟨hl, hs⟩
  | n + 1, l, s, hl, hs => (hp l s hl hs).and fun l' s' h1 h2 => times_rp part hp n l' s' h1 h2
omit he in
theorem more_rp (part : List Stp → PS → Res (List Stp)) (hp : ∀ l s, (∀ y ∈ l, Fit y) → (∀ t ∈ s.ts, TokE E t) → RP E (fun l => ∀ y ∈ l, Fit y) (part l s)) : ∀ (f k : Nat) (l : List Stp) (s : PS), (∀ y ∈ l, Fit y) → (∀ t ∈ s.ts, TokE E t) → RP E (fun x => ∀ y ∈ x.1, Fit y) (moreR part f k l s)
  | 0, k, l, s, hl, hs => ⟨hl, hs⟩
  | f + 1, k, l, s, hl, hs => by
    unfold moreR
    split
    · exact ⟨hl, hs⟩
    · exact (hp l s hl hs).and fun l' s' h1 h2 => more_rp part hp f (k + 1) l' s' h1 h2
omit he in
theorem fit_bare (k : Nat) (h : k ≠ 6) : Fit ⟨k, [], 0⟩ := ⟨⟨by show _ ≤ (0 : Int); omega, by show (0 : Int) ≤ _; omega⟩, fun e => absurd e h⟩
omit he in
theorem fit_bare' (k : Nat) : Fit ⟨k, [], 0⟩ := ⟨⟨by show _ ≤ (0 : Int); omega, by show (0 : Int) ≤ _; omega⟩, fun _ => by simp⟩
theorem oper_rp (part : List Stp → PS → Res (List Stp)) (hp : ∀ l s, (∀ y ∈ l, Fit y) → (∀ t ∈ s.ts, TokE E t) → RP E (fun l => ∀ y ∈ l, Fit y) (part l s)) (l : List Stp) (h : Tok) (s : PS) (hl : ∀ y ∈ l, Fit y) (hs : ∀ t ∈ s.ts, TokE E t) : RP E (fun l => ∀ y ∈ l, Fit y) (operR en part l h s) := by
  unfold operR
  refine (times_rp part hp _ l s hl hs).and fun l1 s1 h1 h2 => ?_
  refine RP.and (Q := fun x => ∀ y ∈ x.1, Fit y) ?_ fun x s2 h3 h4 => ?_
  · split
    · exact more_rp part hp _ _ l1 s1 h1 h2
    · exact ⟨h1, h2⟩
  · exact (take_rp he clsP s2 h4).and fun e s3 h5 h6 => putN_rp he _ _ _ _ _ h3 (fit_bare' _) h5.1.2.2 h6
omit he in
theorem leaf_fit {t : Tok} (h : TokE E t) : Fit (leafP t) := by
  have i0 : I64 0 := ⟨by omega, by omega⟩
  unfold leafP
  split
  · exact ⟨h.1, fun e => by simp at e⟩
  · split
    · exact ⟨i0, fun e => by simp at e⟩
    · split
      · rename_i hc
        have h3 : t.k = 3 := by
          unfold colP at hc
          simp only [Bool.and_eq_true, decide_eq_true_eq] at hc
          exact hc.1
        exact ⟨i0, fun _ => h.2.1 h3⟩
      · split
        · exact fit_bare' _
        · exact fit_bare' _
theorem part_rp (hE : 0 ≤ E) : ∀ (f : Nat) (l : List Stp) (s : PS), (∀ y ∈ l, Fit y) → (∀ t ∈ s.ts, TokE E t) → RP E (fun l => ∀ y ∈ l, Fit y) (partR en f l s)
  | 0, l, s, hl, hs => ⟨Int.le_refl _, hE⟩
  | f + 1, l, s, hl, hs => by
    unfold partR
    refine (take_rp he _ s hs).and fun t s1 h1 h2 => ?_
    split
    · exact (take_rp he oprP s1 h2).and fun h s2 h3 h4 => oper_rp he _ (fun l s a b => part_rp hE f l s a b) l h s2 hl h4
    · exact putR_rp he l _ _ s1 hl (leaf_fit h1.1) h1.1.2.2 h2
theorem expr_rp (s : PS) (hs : ∀ t ∈ s.ts, TokE E t) : RP E (fun l => ∀ y ∈ l, Fit y) (exprR en s) := part_rp he (by omega) _ [] s (by simp) hs
theorem item2_rp (h : Tok) (s : PS) (hs : ∀ t ∈ s.ts, TokE E t) : RP E (fun x : Itm => ∀ y ∈ x.e, Fit y) (item2 en h s) := by
  unfold item2
  split
  · exact (oper_rp he _ (fun l s a b => part_rp he (by omega) _ l s a b) [] h s (by simp) hs).and fun l s1 a b => ⟨a, b⟩
  · refine RP.and (Q := fun l => ∀ y ∈ l, Fit y) ?_ fun l s1 a b => (take_rp he clsP s1 b).and fun _ s2 _ d => ⟨a, d⟩
    split
    · exact ⟨by simp, hs⟩
    · exact expr_rp he s hs
theorem item_rp (s : PS) (hs : ∀ t ∈ s.ts, TokE E t) : RP E (fun x : Itm => ∀ y ∈ x.e, Fit y) (itemR en s) := by
  unfold itemR
  split
  · exact (expr_rp he s hs).and fun l s1 a b => ⟨a, b⟩
  · exact (take_rp he opnP s hs).and fun _ s1 _ b => (take_rp he _ s1 b).and fun h s2 _ d => item2_rp he h s2 d
theorem col_rp (s : PS) (hs : ∀ t ∈ s.ts, TokE E t) : RP E (fun x => x.length ≤ 64) (colR en s) := by
  unfold colR
  refine (take_rp he colP s hs).and fun t s1 a b => ⟨?_, b⟩
  have h3 : t.k = 3 := by
    have := a.2
    unfold colP at this
    simp only [Bool.and_eq_true, decide_eq_true_eq] at this
    exact this.1
  exact a.1.2.1 h3
theorem some_rp {α : Type} (read : PS → Res α) (P : Tok → Bool) (Q : α → Prop) (hr : ∀ s, (∀ t ∈ s.ts, TokE E t) → RP E Q (read s)) : ∀ (f : Nat) (l : List α) (s : PS), (∀ y ∈ l, Q y) → (∀ t ∈ s.ts, TokE E t) → RP E (fun l => ∀ y ∈ l, Q y) (someR en read P f l s)
  | 0, l, s, hl, hs => ⟨hl, hs⟩
  | f + 1, l, s, hl, hs => by
    unfold someR
    split
    · split
      · exact place_rp he s hs
      · refine (hr s hs).and fun x s1 a b => some_rp read P Q hr f (l ++ [x]) s1 (fun y hy => ?_) b
        rcases List.mem_append.1 hy with hy | hy
        · exact hl y hy
        · rw [List.mem_singleton.1 hy]; exact a
    · exact ⟨hl, hs⟩
theorem many_rp {α : Type} (read : PS → Res α) (P : Tok → Bool) (Q : α → Prop) (hr : ∀ s, (∀ t ∈ s.ts, TokE E t) → RP E Q (read s)) (s : PS) (hs : ∀ t ∈ s.ts, TokE E t) : RP E (fun l => ∀ y ∈ l, Q y) (manyR en read P s) := by
  unfold manyR
  exact (hr s hs).and fun x s1 a b => some_rp he read P Q hr 8 [x] s1 (fun y hy => by rw [List.mem_singleton.1 hy]; exact a) b
theorem clause_rp (n : Nat) (q : Qry) (s : PS) (hq : FitQ q) (hs : ∀ t ∈ s.ts, TokE E t) : RP E FitQ (clauseR en n q s) := by
  obtain ⟨q1, q2, q3, q4, q5⟩ := hq
  unfold clauseR
  split
  · exact (take_rp he namP s hs).and fun x s1 _ b => (col_rp he s1 b).and fun a s2 c d => (col_rp he s2 d).and fun b' s3 e f => ⟨⟨q1, q2, c, e, q5⟩, f⟩
  · exact (expr_rp he s hs).and fun l s1 a b => ⟨⟨a, q2, q3, q4, q5⟩, b⟩
  · exact (many_rp he _ colP _ (col_rp he) s hs).and fun l s1 a b => ⟨⟨q1, q2, q3, q4, a⟩, b⟩
  · exact (many_rp he _ _ _ (item_rp he) s hs).and fun l s1 a b => ⟨⟨q1, a, q3, q4, q5⟩, b⟩
theorem clauses_rp : ∀ (f n : Nat) (q : Qry) (s : PS), FitQ q → (∀ t ∈ s.ts, TokE E t) → RP E FitQ (clausesR en f n q s)
  | 0, n, q, s, hq, hs => ⟨hq, hs⟩
  | f + 1, n, q, s, hq, hs => by
    unfold clausesR
    split
    · refine (take_rp he opnP s hs).and fun _ s1 _ b => RP.and (Q := fun y : Qry × Nat => FitQ y.1) ?_ fun y s2 c d => (take_rp he clsP s2 d).and fun _ s3 _ e => clauses_rp f y.2 y.1 s3 c e
      unfold clauseM
      exact (take_rp he _ s1 b).and fun h s2 _ d => (clause_rp he _ q s2 hq d).and fun q' s3 e f => ⟨e, f⟩
    · exact ⟨hq, hs⟩
theorem whole_rp (s : PS) (hs : ∀ t ∈ s.ts, TokE E t) : RP E FitQ (wholeR en s) := by
  unfold wholeR
  refine RP.and (Q := FitQ) ?_ fun q s1 a b => ?_
  · unfold queryR
    exact (take_rp he opnP s hs).and fun _ s1 _ b => (take_rp he _ s1 b).and fun _ s2 _ c => (take_rp he namP s2 c).and fun n s3 _ d =>
      (clauses_rp he 5 0 _ s3 ⟨by simp, by simp, by simp, by simp, by simp⟩ d).and fun q s4 e f => (take_rp he clsP s4 f).and fun _ s5 _ g => ⟨e, g⟩
  · split
    · exact ⟨a, b⟩
    · exact place_rp he s1 b
omit he
/-- A word's token has at most 64 bytes. -/
theorem tok_word (ls : List Let) (p : Nat) (h : (tokAns ls p).tok.k = 3) : (tokAns ls p).tok.t.length ≤ 64 := by
  unfold tokAns at h ⊢
  split at h
  · simp [noTok] at h
  rename_i x r hx
  split at h
  · simp at h
  rename_i h40
  split at h
  · simp at h
  rename_i h41
  split at h
  · rename_i h34
    unfold textAns at h
    split at h
    · simp [noTok] at h
    · split at h
      · simp [noTok] at h
      · split at h
        · simp [noTok] at h
        · simp at h
  rename_i h34
  simp only [if_neg h40, if_neg h41, if_neg h34]
  unfold wordAns at h ⊢
  dsimp only at h ⊢
  split at h
  · simp [noTok] at h
  rename_i hb
  split at h
  · rename_i hw
    rw [if_neg hb, if_pos hw]
    simp only at h ⊢
    unfold wTok at h ⊢
    split at h
    · rename_i hn
      unfold numTok at h
      split at h
      · simp at h
      · simp [noTok] at h
    · rename_i hn
      split at h
      · simp [noTok] at h
      · rename_i h64
        rw [if_neg hn, if_neg h64]
        show _ ≤ 64
        simp only
        omega
  · simp [noTok] at h
theorem lexGo_toks (ls : List Let) (hls : ls.length ≤ 2048) : ∀ (f p : Nat) (acc : List Tok), (∀ t ∈ acc, TokE ls.length t) → ∀ t ∈ (lexGo ls f p acc).1, TokE ls.length t
  | 0, p, acc, h => h
  | f + 1, p, acc, h => by
    by_cases hp : p < ls.length
    · rw [lexGo_step ls f p acc hp]
      split
      · rename_i herr
        refine lexGo_toks ls hls f _ _ fun t ht => ?_
        rcases List.mem_append.1 ht with ht | ht
        · exact h t ht
        · rw [List.mem_singleton.1 ht]
          have ha := tokAns_a ls p hp herr
          exact ⟨(ok_tokAns ls p (by omega)).2.1, tok_word ls p, by rw [ha]; omega, by rw [ha]; omega⟩
      · intro t ht; simp at ht
    · rw [lexGo_end ls (f + 1) p acc hp]
      exact h
theorem lets_le (l : List UInt8) : (lets l).length ≤ l.length := by have := letL_le l.length l; unfold lets; omega
theorem lexP_toks (l : List UInt8) : ∀ t ∈ (lexP l).1, TokE (lets l).length t := by
  unfold lexP
  split
  · intro t ht; simp at ht
  · rename_i h
    exact lexGo_toks _ (by have := lets_le l; omega) _ _ [] (by simp)
/-- What a text's reading is: a right query that may be written and read, or the empty one with a place within the text. -/
theorem parse_form (l : List UInt8) : (∃ q, parseP l = (q, 0, 0) ∧ queryOkP q = true ∧ FitQ q) ∨ ∃ y a, parseP l = (zeroQ, y, a) ∧ y ≠ 0 ∧ 0 ≤ a ∧ a ≤ l.length := by
  have hle := lets_le l
  unfold parseP
  split
  · rename_i h
    obtain ⟨-, h2, h3⟩ := lexP_fail l h
    exact .inr ⟨_, _, rfl, h, h2, h3⟩
  have hw := whole_rp (E := (lets l).length) (en := (lets l).length) ⟨by omega, by omega⟩ ⟨(lexP l).1, 0⟩ (lexP_toks l)
  split
  · rename_i h
    refine .inr ⟨_, _, rfl, h, ?_⟩
    unfold readP at h ⊢
    revert hw h
    cases wholeR ((lets l).length : Int) ⟨(lexP l).1, 0⟩ with
    | inl e => intro hw h; exact ⟨hw.1, by have := hw.2; show e.2 ≤ _; omega⟩
    | inr p => intro hw h; exact absurd rfl h
  rename_i h0
  split
  · rename_i h
    exact .inr ⟨_, _, rfl, h, by omega, by omega⟩
  rename_i hc
  refine .inl ⟨_, rfl, ?_, ?_⟩
  · by_cases h : queryOkP (readP l).1 = true
    · exact h
    · exact absurd (by unfold checkQ; rw [if_neg h]; decide) hc
  · unfold readP
    revert hw
    cases wholeR ((lets l).length : Int) ⟨(lexP l).1, 0⟩ with
    | inl e => intro _; exact ⟨by simp [resQ, zeroQ], by simp [resQ, zeroQ], by simp [resQ, zeroQ], by simp [resQ, zeroQ], by simp [resQ, zeroQ]⟩
    | inr p => intro hw; exact hw.1
end Go.Proofs.YthpcpaggbhgcoaaGreatDoor
/- How long a right query's text is. No walk stands in this text. -/
namespace Go.Proofs.YthpcpaggbhgcoaaGreatDoor
open Go.RowKit Go.Lib
set_option linter.unusedVariables false
set_option linter.unusedSimpArgs false
theorem okP_of {x : Stp} (h : rStepP x = true) (hf : Fit x) : okP x := by
  obtain ⟨k, t, n⟩ := x
  unfold rStepP at h
  simp only at h
  split at h
  · cases h
  rename_i h0
  refine ⟨by show k < 256; omega, hf.1, ?_⟩
  show t.length ≤ 100000
  split at h
  · have : t = [] := by simpa using h
    rw [this]; simp
  split at h
  · simp only [Bool.and_eq_true, decide_eq_true_eq] at h
    omega
  split at h
  · rename_i h6
    have := hf.2 h6
    simp only at this
    omega
  · simp only [Bool.and_eq_true, decide_eq_true_eq] at h
    rw [h.2]; simp
theorem right_all : ∀ (l : List Stp) (v : Nat), rightL l v = true → ∀ x ∈ l, rStepP x = true
  | [], _, _, x, hx => by cases hx
  | y :: l, v, h, x, hx => by
    unfold rightL at h
    split at h
    · cases h
    rename_i hc
    simp only [not_or, Bool.not_eq_false] at hc
    rcases List.mem_cons.1 hx with rfl | hx
    · exact (takes_of hc.1).1
    · exact right_all l _ h x hx
theorem exprGo_len : ∀ (l : List Stp) (st : List (List UInt8)), (∀ x ∈ l, okP x ∧ rStepP x = true) → (exprGo l st).flatten.length ≤ st.flatten.length + l.length * 100100
  | [], st, _ => by unfold exprGo; omega
  | x :: l, st, h => by
    unfold exprGo
    have hx := h x (by simp)
    have h2 : (takesP x).1 ≤ 2 := by unfold takesP takesN; rw [if_pos hx.2]; simp only; split <;> (try split) <;> omega
    have h1 := writeStepP_len x (st.drop (st.length - (takesP x).1)) hx.1 (by rw [List.length_drop]; omega)
    have h3 := exprGo_len l (st.take (st.length - (takesP x).1) ++ [writeStepP x (st.drop (st.length - (takesP x).1))]) fun y hy => h y (by simp [hy])
    have h4 : st.flatten.length = (st.take (st.length - (takesP x).1)).flatten.length + (st.drop (st.length - (takesP x).1)).flatten.length := by
      rw [← List.length_append, ← List.flatten_append, List.take_append_drop]
    have h5 : (st.take (st.length - (takesP x).1) ++ [writeStepP x (st.drop (st.length - (takesP x).1))]).flatten.length = (st.take (st.length - (takesP x).1)).flatten.length + (writeStepP x (st.drop (st.length - (takesP x).1))).length := by
      rw [List.flatten_append, List.length_append]; simp
    simp only [List.length_cons, Nat.add_mul, Nat.one_mul]
    omega
theorem head_len (l : List (List UInt8)) : (l.headD []).length ≤ l.flatten.length := by
  cases l with
  | nil => simp
  | cons x l => simp
theorem exprP_len {l : List Stp} (h : rightP l = true) (hf : ∀ x ∈ l, Fit x) : (exprP l).length ≤ 20000000 := by
  unfold rightP at h
  split at h
  · cases h
  rename_i h64
  have h1 := exprGo_len l [] fun x hx => ⟨okP_of (right_all l 0 h x hx) (hf x hx), right_all l 0 h x hx⟩
  have h2 := head_len (exprGo l [])
  unfold exprP
  simp only [List.flatten_nil, List.length_nil, Nat.zero_add] at h1
  have : l.length * 100100 ≤ 64 * 100100 := Nat.mul_le_mul_right _ (by omega)
  omega
theorem item_len {x : Itm} (h : itemOkP x = true) (hf : ∀ y ∈ x.e, Fit y) : (writeItemP x).length ≤ 30000000 := by
  unfold itemOkP at h
  unfold writeItemP
  have ha := aggTextP_len x.g
  have ha1 := aggTextP_len 1
  by_cases g0 : x.g = 0
  · rw [if_pos g0]
    rw [if_neg (by omega)] at h
    simp only [Bool.and_eq_true] at h
    have := exprP_len h.2 hf
    omega
  · rw [if_neg g0]
    by_cases g1 : x.g = 1
    · rw [if_pos g1, bracketsP_len]; simp; omega
    · rw [if_neg g1] at h ⊢
      simp only [Bool.and_eq_true] at h
      have := exprP_len h.2 hf
      rw [bracketsP_len]
      simp
      omega
theorem flat_le : ∀ (l : List (List UInt8)) (m : Nat), (∀ t ∈ l, t.length ≤ m) → l.flatten.length ≤ l.length * m
  | [], m, _ => by simp
  | x :: l, m, h => by
    have h1 := h x (by simp)
    have h2 := flat_le l m fun t ht => h t (by simp [ht])
    simp only [List.flatten_cons, List.length_append, List.length_cons, Nat.add_mul, Nat.one_mul]
    omega
theorem text_len {q : Qry} (h : queryOkP q = true) (hf : FitQ q) : (queryTextP q).length ≤ 1000000000 := by
  unfold queryOkP at h
  simp only [Bool.and_eq_true] at h
  obtain ⟨hn, hj, hw, hi, hg⟩ := h
  have ht := (name_parts hn).2.1
  have hwd := wordP_len
  have b1 : (joinL q).flatten.length ≤ 1000 ∧ (joinL q).length ≤ 1 := by
    unfold joinL
    split
    · simp
    · rename_i hj0
      unfold joinOkP at hj
      rw [if_neg hj0] at hj
      simp only [Bool.and_eq_true] at hj
      have := (name_parts hj.1).2.1
      have w0 := hwd 0
      have fa := hf.a
      have fb := hf.b
      refine ⟨?_, by simp⟩
      simp only [List.flatten_cons, List.flatten_nil, List.append_nil]
      rw [bracketsP_len]
      simp
      omega
  have b2 : (whereL q).flatten.length ≤ 20000100 ∧ (whereL q).length ≤ 1 := by
    unfold whereL
    split
    · simp
    · rename_i hw0
      unfold whereOkP at hw
      have hwr : rightP q.w = true := by simpa [hw0] using hw
      have := exprP_len hwr hf.w
      have w0 := hwd 1
      refine ⟨?_, by simp⟩
      simp only [List.flatten_cons, List.flatten_nil, List.append_nil]
      rw [bracketsP_len]
      simp
      omega
  have b3 : (groupL q).flatten.length ≤ 1000 ∧ (groupL q).length ≤ 1 := by
    unfold groupL
    split
    · simp
    · unfold groupOkP at hg
      split at hg
      · cases hg
      rename_i h8
      have h1 := flat_le q.g 64 hf.g
      have w0 := hwd 2
      have h3 : q.g.length * 64 ≤ 8 * 64 := Nat.mul_le_mul_right _ (by omega)
      refine ⟨?_, by simp⟩
      simp only [List.flatten_cons, List.flatten_nil, List.append_nil]
      rw [bracketsP_len]
      omega
  have b4 : (getL q).flatten.length ≤ 240001000 ∧ (getL q).length ≤ 1 := by
    unfold getL
    split
    · simp
    · unfold itemsOkP at hi
      split at hi
      · cases hi
      rename_i h8
      rw [List.all_eq_true] at hi
      have h1 := flat_le (q.i.map writeItemP) 30000000 fun t ht => by
        obtain ⟨x, hx, rfl⟩ := List.mem_map.1 ht
        exact item_len (hi x hx) (hf.i x hx)
      have w0 := hwd 3
      rw [List.length_map] at h1
      have h3 : q.i.length * 30000000 ≤ 8 * 30000000 := Nat.mul_le_mul_right _ (by omega)
      refine ⟨?_, by simp⟩
      simp only [List.flatten_cons, List.flatten_nil, List.append_nil]
      rw [bracketsP_len, List.length_map]
      omega
  unfold queryTextP
  rw [bracketsP_len]
  have hfr : fromP.length = 4 := rfl
  simp only [List.flatten_append, List.length_append, List.flatten_cons, List.flatten_nil, List.append_nil, List.length_cons, List.length_nil]
  omega
end Go.Proofs.YthpcpaggbhgcoaaGreatDoor
