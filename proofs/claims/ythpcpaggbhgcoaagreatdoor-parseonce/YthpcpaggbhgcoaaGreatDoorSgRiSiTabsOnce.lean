/- What a query is that was read, and where a fault lies. No walk stands in this text. -/
import Derived.Test.YthpcpaggbhgcoaaGreatDoorSeSf
import Derived.Test.YthpcpaggbhgcoaaGreatDoorRh
import Derived.Test.YthpcpaggbhgcoaaGreatDoorSh
import Derived.Test.YthpcpaggbhgcoaaGreatDoorTie
import Derived.Lib.LaidU8T
import Derived.Lib.LaidTab
import Derived.Shelf.Vars
import Derived.PinnedBridge
import Derived.LaidMore
import Derived.MakeChecks
import Derived.Lay
import Derived.Test.YthpcpaggbhgcoaaGreatDoorCards
import Derived.ProofKit
import Derived.OpenShut
import Derived.SevenTiedAt
import Derived.Stop.Joined
import Derived.SizedLaws
import Derived.Lib.SmallJoins
namespace Go.Proofs.YthpcpaggbhgcoaaGreatDoor
open Go.RowKit Go.Lib
set_option linter.unusedVariables false
set_option linter.unusedSimpArgs false
set_option linter.unusedSectionVars false
/-- A token of a text of so many letters. -/
def TokE (E : Int) (t : Tok) : Prop := I64 t.n ∧ (t.k = 3 → t.t.length ≤ 64) ∧ 0 ≤ t.a ∧ t.a ≤ E
/-- A place within, or something of this kind with such tokens left. -/
def RP {α : Type} (E : Int) (Q : α → Prop) (r : Res α) : Prop := match r with
  | .inl (_, a) => 0 ≤ a ∧ a ≤ E
  | .inr (x, s) => Q x ∧ ∀ t ∈ s.ts, TokE E t
theorem RP.and {α β : Type} {E : Int} {Q : α → Prop} {Q' : β → Prop} {r : Res α} {f : α → PS → Res β} (h : RP E Q r) (hf : ∀ x s, Q x → (∀ t ∈ s.ts, TokE E t) → RP E Q' (f x s)) : RP E Q' (andR r f) := by
  cases r with
  | inl e => exact h
  | inr p => exact hf p.1 p.2 h.1 h.2
theorem RP.mono {α : Type} {E : Int} {Q Q' : α → Prop} {r : Res α} (h : RP E Q r) (hQ : ∀ x, Q x → Q' x) : RP E Q' r := by
  cases r with
  | inl e => exact h
  | inr p => exact ⟨hQ _ h.1, h.2⟩
variable {E en : Int}
theorem place_rp (he : 0 ≤ en ∧ en ≤ E) (s : PS) (hs : ∀ t ∈ s.ts, TokE E t) : 0 ≤ placeP en s ∧ placeP en s ≤ E := by
  unfold placeP
  split
  · exact he
  · rename_i t r h
    exact (hs t (by rw [h]; simp)).2.2
theorem take_rp (he : 0 ≤ en ∧ en ≤ E) (P : Tok → Bool) (s : PS) (hs : ∀ t ∈ s.ts, TokE E t) : RP E (fun t => TokE E t ∧ P t = true) (takeP en P s) := by
  unfold takeP
  split
  · exact place_rp he s hs
  · split
    · exact he
    · rename_i t r h
      have ht := hs t (by rw [h]; simp)
      split
      · rename_i hP
        exact ⟨⟨ht, hP⟩, fun x hx => hs x (by rw [h]; exact List.mem_cons_of_mem _ hx)⟩
      · exact ht.2.2
theorem putR_rp (he : 0 ≤ en ∧ en ≤ E) (l : List Stp) (x : Stp) (a : Int) (s : PS) (hl : ∀ y ∈ l, Fit y) (hx : Fit x) (ha : 0 ≤ a ∧ a ≤ E) (hs : ∀ t ∈ s.ts, TokE E t) : RP E (fun l => ∀ y ∈ l, Fit y) (putR l x a s) := by
  unfold putR
  split
  · exact ha
  · refine ⟨fun y hy => ?_, hs⟩
    rcases List.mem_append.1 hy with hy | hy
    · exact hl y hy
    · rw [List.mem_singleton.1 hy]; exact hx
theorem putN_rp (he : 0 ≤ en ∧ en ≤ E) : ∀ (n : Nat) (l : List Stp) (x : Stp) (a : Int) (s : PS), (∀ y ∈ l, Fit y) → Fit x → (0 ≤ a ∧ a ≤ E) → (∀ t ∈ s.ts, TokE E t) → RP E (fun l => ∀ y ∈ l, Fit y) (putN n l x a s)
  | 0, l, x, a, s, hl, hx, ha, hs => ⟨hl, hs⟩
  | n + 1, l, x, a, s, hl, hx, ha, hs => (putR_rp he l x a s hl hx ha hs).and fun l' s' h1 h2 => putN_rp he n l' x a s' h1 hx ha h2
theorem times_rp (part : List Stp → PS → Res (List Stp)) (hp : ∀ l s, (∀ y ∈ l, Fit y) → (∀ t ∈ s.ts, TokE E t) → RP E (fun l => ∀ y ∈ l, Fit y) (part l s)) : ∀ (n : Nat) (l : List Stp) (s : PS), (∀ y ∈ l, Fit y) → (∀ t ∈ s.ts, TokE E t) → RP E (fun l => ∀ y ∈ l, Fit y) (timesR part n l s)
  | 0, l, s, hl, hs => ⟨hl, hs⟩
  | n + 1, l, s, hl, hs => (hp l s hl hs).and fun l' s' h1 h2 => times_rp part hp n l' s' h1 h2
theorem more_rp (part : List Stp → PS → Res (List Stp)) (hp : ∀ l s, (∀ y ∈ l, Fit y) → (∀ t ∈ s.ts, TokE E t) → RP E (fun l => ∀ y ∈ l, Fit y) (part l s)) : ∀ (f k : Nat) (l : List Stp) (s : PS), (∀ y ∈ l, Fit y) → (∀ t ∈ s.ts, TokE E t) → RP E (fun x => ∀ y ∈ x.1, Fit y) (moreR part f k l s)
  | 0, k, l, s, hl, hs => ⟨hl, hs⟩
  | f + 1, k, l, s, hl, hs => by
    unfold moreR
    split
    · exact ⟨hl, hs⟩
    · exact (hp l s hl hs).and fun l' s' h1 h2 => more_rp part hp f (k + 1) l' s' h1 h2
theorem fit_bare (k : Nat) (h : k ≠ 6) : Fit ⟨k, [], 0⟩ := ⟨⟨by show _ ≤ (0 : Int); omega, by show (0 : Int) ≤ _; omega⟩, fun e => absurd e h⟩
theorem fit_bare' (k : Nat) : Fit ⟨k, [], 0⟩ := ⟨⟨by show _ ≤ (0 : Int); omega, by show (0 : Int) ≤ _; omega⟩, fun _ => by simp⟩
theorem oper_rp (he : 0 ≤ en ∧ en ≤ E) (part : List Stp → PS → Res (List Stp)) (hp : ∀ l s, (∀ y ∈ l, Fit y) → (∀ t ∈ s.ts, TokE E t) → RP E (fun l => ∀ y ∈ l, Fit y) (part l s)) (l : List Stp) (h : Tok) (s : PS) (hl : ∀ y ∈ l, Fit y) (hs : ∀ t ∈ s.ts, TokE E t) : RP E (fun l => ∀ y ∈ l, Fit y) (operR en part l h s) := by
  unfold operR
  refine (times_rp part hp _ l s hl hs).and fun l1 s1 h1 h2 => ?_
  refine RP.and (Q := fun x => ∀ y ∈ x.1, Fit y) ?_ fun x s2 h3 h4 => ?_
  · split
    · exact more_rp part hp _ _ l1 s1 h1 h2
    · exact ⟨h1, h2⟩
  · exact (take_rp he clsP s2 h4).and fun e s3 h5 h6 => putN_rp he _ _ _ _ _ h3 (fit_bare' _) h5.1.2.2 h6
theorem leaf_fit {t : Tok} (h : TokE E t) : Fit (leafP t) := by
  have i0 : I64 0 := ⟨by omega, by omega⟩
  unfold leafP
  split
  · exact ⟨h.1, fun e => by simp at e⟩
  · split
    · exact ⟨i0, fun e => by simp at e⟩
    · split
      · rename_i hc
        have h3 : t.k = 3 := by
          unfold colP at hc
          simp only [Bool.and_eq_true, decide_eq_true_eq] at hc
          exact hc.1
        exact ⟨i0, fun _ => h.2.1 h3⟩
      · split
        · exact fit_bare' _
        · exact fit_bare' _
theorem part_rp (he : 0 ≤ en ∧ en ≤ E) (hE : 0 ≤ E) : ∀ (f : Nat) (l : List Stp) (s : PS), (∀ y ∈ l, Fit y) → (∀ t ∈ s.ts, TokE E t) → RP E (fun l => ∀ y ∈ l, Fit y) (partR en f l s)
  | 0, l, s, hl, hs => ⟨Int.le_refl _, hE⟩
  | f + 1, l, s, hl, hs => by
    unfold partR
    refine (take_rp he _ s hs).and fun t s1 h1 h2 => ?_
    split
    · exact (take_rp he oprP s1 h2).and fun h s2 h3 h4 => oper_rp he _ (fun l s a b => part_rp he hE f l s a b) l h s2 hl h4
    · exact putR_rp he l _ _ s1 hl (leaf_fit h1.1) h1.1.2.2 h2
theorem expr_rp (he : 0 ≤ en ∧ en ≤ E) (s : PS) (hs : ∀ t ∈ s.ts, TokE E t) : RP E (fun l => ∀ y ∈ l, Fit y) (exprR en s) := part_rp he (by omega) _ [] s (by simp) hs
theorem item2_rp (he : 0 ≤ en ∧ en ≤ E) (h : Tok) (s : PS) (hs : ∀ t ∈ s.ts, TokE E t) : RP E (fun x : Itm => ∀ y ∈ x.e, Fit y) (item2 en h s) := by
  unfold item2
  split
  · exact (oper_rp he _ (fun l s a b => part_rp he (by omega) _ l s a b) [] h s (by simp) hs).and fun l s1 a b => ⟨a, b⟩
  · refine RP.and (Q := fun l => ∀ y ∈ l, Fit y) ?_ fun l s1 a b => (take_rp he clsP s1 b).and fun _ s2 _ d => ⟨a, d⟩
    split
    · exact ⟨by simp, hs⟩
    · exact expr_rp he s hs
theorem item_rp (he : 0 ≤ en ∧ en ≤ E) (s : PS) (hs : ∀ t ∈ s.ts, TokE E t) : RP E (fun x : Itm => ∀ y ∈ x.e, Fit y) (itemR en s) := by
  unfold itemR
  split
  · exact (expr_rp he s hs).and fun l s1 a b => ⟨a, b⟩
  · exact (take_rp he opnP s hs).and fun _ s1 _ b => (take_rp he _ s1 b).and fun h s2 _ d => item2_rp he h s2 d
theorem col_rp (he : 0 ≤ en ∧ en ≤ E) (s : PS) (hs : ∀ t ∈ s.ts, TokE E t) : RP E (fun x => x.length ≤ 64) (colR en s) := by
  unfold colR
  refine (take_rp he colP s hs).and fun t s1 a b => ⟨?_, b⟩
  have h3 : t.k = 3 := by
    have := a.2
    unfold colP at this
    simp only [Bool.and_eq_true, decide_eq_true_eq] at this
    exact this.1
  exact a.1.2.1 h3
theorem some_rp (he : 0 ≤ en ∧ en ≤ E) {α : Type} (read : PS → Res α) (P : Tok → Bool) (Q : α → Prop) (hr : ∀ s, (∀ t ∈ s.ts, TokE E t) → RP E Q (read s)) : ∀ (f : Nat) (l : List α) (s : PS), (∀ y ∈ l, Q y) → (∀ t ∈ s.ts, TokE E t) → RP E (fun l => ∀ y ∈ l, Q y) (someR en read P f l s)
  | 0, l, s, hl, hs => ⟨hl, hs⟩
  | f + 1, l, s, hl, hs => by
    unfold someR
    split
    · split
      · exact place_rp he s hs
      · refine (hr s hs).and fun x s1 a b => some_rp he read P Q hr f (l ++ [x]) s1 (fun y hy => ?_) b
        rcases List.mem_append.1 hy with hy | hy
        · exact hl y hy
        · rw [List.mem_singleton.1 hy]; exact a
    · exact ⟨hl, hs⟩
theorem many_rp (he : 0 ≤ en ∧ en ≤ E) {α : Type} (read : PS → Res α) (P : Tok → Bool) (Q : α → Prop) (hr : ∀ s, (∀ t ∈ s.ts, TokE E t) → RP E Q (read s)) (s : PS) (hs : ∀ t ∈ s.ts, TokE E t) : RP E (fun l => ∀ y ∈ l, Q y) (manyR en read P s) := by
  unfold manyR
  exact (hr s hs).and fun x s1 a b => some_rp he read P Q hr 8 [x] s1 (fun y hy => by rw [List.mem_singleton.1 hy]; exact a) b
theorem clause_rp (he : 0 ≤ en ∧ en ≤ E) (n : Nat) (q : Qry) (s : PS) (hq : FitQ q) (hs : ∀ t ∈ s.ts, TokE E t) : RP E FitQ (clauseR en n q s) := by
  obtain ⟨q1, q2, q3, q4, q5⟩ := hq
  unfold clauseR
  split
  · exact (take_rp he namP s hs).and fun x s1 _ b => (col_rp he s1 b).and fun a s2 c d => (col_rp he s2 d).and fun b' s3 e f => ⟨⟨q1, q2, c, e, q5⟩, f⟩
  · exact (expr_rp he s hs).and fun l s1 a b => ⟨⟨a, q2, q3, q4, q5⟩, b⟩
  · exact (many_rp he _ colP _ (col_rp he) s hs).and fun l s1 a b => ⟨⟨q1, q2, q3, q4, a⟩, b⟩
  · exact (many_rp he _ _ _ (item_rp he) s hs).and fun l s1 a b => ⟨⟨q1, a, q3, q4, q5⟩, b⟩
theorem clauses_rp (he : 0 ≤ en ∧ en ≤ E) : ∀ (f n : Nat) (q : Qry) (s : PS), FitQ q → (∀ t ∈ s.ts, TokE E t) → RP E FitQ (clausesR en f n q s)
  | 0, n, q, s, hq, hs => ⟨hq, hs⟩
  | f + 1, n, q, s, hq, hs => by
    unfold clausesR
    split
    · refine (take_rp he opnP s hs).and fun _ s1 _ b => RP.and (Q := fun y : Qry × Nat => FitQ y.1) ?_ fun y s2 c d => (take_rp he clsP s2 d).and fun _ s3 _ e => clauses_rp he f y.2 y.1 s3 c e
      unfold clauseM
      exact (take_rp he _ s1 b).and fun h s2 _ d => (clause_rp he _ q s2 hq d).and fun q' s3 e f => ⟨e, f⟩
    · exact ⟨hq, hs⟩
theorem whole_rp (he : 0 ≤ en ∧ en ≤ E) (s : PS) (hs : ∀ t ∈ s.ts, TokE E t) : RP E FitQ (wholeR en s) := by
  unfold wholeR
  refine RP.and (Q := FitQ) ?_ fun q s1 a b => ?_
  · unfold queryR
    exact (take_rp he opnP s hs).and fun _ s1 _ b => (take_rp he _ s1 b).and fun _ s2 _ c => (take_rp he namP s2 c).and fun n s3 _ d =>
      (clauses_rp he 5 0 _ s3 ⟨by simp, by simp, by simp, by simp, by simp⟩ d).and fun q s4 e f => (take_rp he clsP s4 f).and fun _ s5 _ g => ⟨e, g⟩
  · split
    · exact ⟨a, b⟩
    · exact place_rp he s1 b
/-- A word's token has at most 64 bytes. -/
theorem tok_word (ls : List Let) (p : Nat) (h : (tokAns ls p).tok.k = 3) : (tokAns ls p).tok.t.length ≤ 64 := by
  unfold tokAns at h ⊢
  split at h
  · simp [noTok] at h
  rename_i x r hx
  split at h
  · simp at h
  rename_i h40
  split at h
  · simp at h
  rename_i h41
  split at h
  · rename_i h34
    unfold textAns at h
    split at h
    · simp [noTok] at h
    · split at h
      · simp [noTok] at h
      · split at h
        · simp [noTok] at h
        · simp at h
  rename_i h34
  simp only [if_neg h40, if_neg h41, if_neg h34]
  unfold wordAns at h ⊢
  dsimp only at h ⊢
  split at h
  · simp [noTok] at h
  rename_i hb
  split at h
  · rename_i hw
    rw [if_neg hb, if_pos hw]
    simp only at h ⊢
    unfold wTok at h ⊢
    split at h
    · rename_i hn
      unfold numTok at h
      split at h
      · simp at h
      · simp [noTok] at h
    · rename_i hn
      split at h
      · simp [noTok] at h
      · rename_i h64
        rw [if_neg hn, if_neg h64]
        show _ ≤ 64
        simp only
        omega
  · simp [noTok] at h
theorem lexGo_toks (ls : List Let) (hls : ls.length ≤ 2048) : ∀ (f p : Nat) (acc : List Tok), (∀ t ∈ acc, TokE ls.length t) → ∀ t ∈ (lexGo ls f p acc).1, TokE ls.length t
  | 0, p, acc, h => h
  | f + 1, p, acc, h => by
    by_cases hp : p < ls.length
    · rw [lexGo_step ls f p acc hp]
      split
      · rename_i herr
        refine lexGo_toks ls hls f _ _ fun t ht => ?_
        rcases List.mem_append.1 ht with ht | ht
        · exact h t ht
        · rw [List.mem_singleton.1 ht]
          have ha := tokAns_a ls p hp herr
          exact ⟨(ok_tokAns ls p (by omega)).2.1, tok_word ls p, by rw [ha]; omega, by rw [ha]; omega⟩
      · intro t ht; simp at ht
    · rw [lexGo_end ls (f + 1) p acc hp]
      exact h
theorem lets_le (l : List UInt8) : (lets l).length ≤ l.length := by have := letL_le l.length l; unfold lets; omega
theorem lexP_toks (l : List UInt8) : ∀ t ∈ (lexP l).1, TokE (lets l).length t := by
  unfold lexP
  split
  · intro t ht; simp at ht
  · rename_i h
    exact lexGo_toks _ (by have := lets_le l; omega) _ _ [] (by simp)
/-- What a text's reading is: a right query that may be written and read, or the empty one with a place within the text. -/
theorem parse_form (l : List UInt8) : (∃ q, parseP l = (q, 0, 0) ∧ queryOkP q = true ∧ FitQ q) ∨ ∃ y a, parseP l = (zeroQ, y, a) ∧ y ≠ 0 ∧ 0 ≤ a ∧ a ≤ l.length := by
  have hle := lets_le l
  unfold parseP
  split
  · rename_i h
    obtain ⟨-, h2, h3⟩ := lexP_fail l h
    exact .inr ⟨_, _, rfl, h, h2, h3⟩
  have hw := whole_rp (E := (lets l).length) (en := (lets l).length) ⟨by omega, by omega⟩ ⟨(lexP l).1, 0⟩ (lexP_toks l)
  split
  · rename_i h
    refine .inr ⟨_, _, rfl, h, ?_⟩
    unfold readP at h ⊢
    revert hw h
    cases wholeR ((lets l).length : Int) ⟨(lexP l).1, 0⟩ with
    | inl e => intro hw h; exact ⟨hw.1, by have := hw.2; show e.2 ≤ _; omega⟩
    | inr p => intro hw h; exact absurd rfl h
  rename_i h0
  split
  · rename_i h
    exact .inr ⟨_, _, rfl, h, by omega, by omega⟩
  rename_i hc
  refine .inl ⟨_, rfl, ?_, ?_⟩
  · by_cases h : queryOkP (readP l).1 = true
    · exact h
    · exact absurd (by unfold checkQ; rw [if_neg h]; decide) hc
  · unfold readP
    revert hw
    cases wholeR ((lets l).length : Int) ⟨(lexP l).1, 0⟩ with
    | inl e => intro _; exact ⟨by simp [resQ, zeroQ], by simp [resQ, zeroQ], by simp [resQ, zeroQ], by simp [resQ, zeroQ], by simp [resQ, zeroQ]⟩
    | inr p => intro hw; exact hw.1
end Go.Proofs.YthpcpaggbhgcoaaGreatDoor
/- Queries that are one: what the reference's Same answers. -/
namespace Go.Proofs.YthpcpaggbhgcoaaGreatDoor
open Go.Shelf Go.RowKit Go.Lib Go.Sort
set_option linter.unusedVariables false
set_option linter.unusedSimpArgs false
attribute [local go_sem ↓] Go.wp_at_zero Go.wp_at_succ
theorem run_step_eq (k n : Int) (t : ByteArray) (w : World) :
    (binOp .neq 40 (.agg #[.int .u8 k, .string t, .int .i64 n]) (.agg #[.int .u8 k, .string t, .int .i64 n])).run Tryz.prog w = .ok (.bool false) w := by
  have h : (binOp .eql 40 (.agg #[.int .u8 k, .string t, .int .i64 n]) (.agg #[.int .u8 k, .string t, .int .i64 n])).run Tryz.prog w = .ok (.bool true) w := by
    have hS : Tryz.prog.underlying 40 = some (.struct (Tryz.prog.fieldsOf 40)) := by kernel_rfl
    have hp : Tryz.prog.stoodInHeld 40 = false := by kernel_rfl
    have u3 := Tryz.underlying3; have a3 := Tryz.isAgg3; have z3 := Tryz.sizeOf3
    have u9 := Tryz.underlying9; have a9 := Tryz.isAgg9; have z9 := Tryz.sizeOf9
    have u1 := Tryz.underlying38; have a1 := Tryz.isAgg38; have z1 := Tryz.sizeOf38
    have u2 := Tryz.underlying2; have a2 := Tryz.isAgg2; have z2 := Tryz.sizeOf2
    rw [run_eql_struct, show (10000 : Nat) = 9999 + 1 from rfl, run_equalIn_struct w 9999 40 _ _ hS hp]
    simp only [Program.fieldsOf, Tryz.underlying40]
    go_simp
  simp only [binOp, Sem.run_bind] at h ⊢
  generalize (Op.equal 40 (.agg #[.int .u8 k, .string t, .int .i64 n]) (.agg #[.int .u8 k, .string t, .int .i64 n])).run Tryz.prog w = r at h ⊢
  cases r <;> simp_all
set_option maxRecDepth 100000 in
set_option maxHeartbeats 2000000 in
theorem texts_eq (va vb : Value) (xs : List (List UInt8)) (K L : Nat → Prop) (w : World) (h : ListIs rStr 1 16 K w va xs) (h' : ListIs rStr 1 16 L w vb xs) (hK : ∀ b, K b → b < w.heap.size) (hL : ∀ b, L b → b < w.heap.size) :
    Calls Tryz.prog 16 #[va, vb] w fun e w' => e = .returned (.bool true) ∧ Below w.heap.size w w' := by
  obtain ⟨p, c, rfl, hby, hp⟩ := h
  obtain ⟨q, d, rfl, _, hq⟩ := h'
  have HP : Hid _ := hp
  have HQ : Hid _ := hq
  have t3 : ((xs.length : Int) != (xs.length : Int)) = false := by simp
  have HKK : Hid (∀ b, K b → b < w.heap.size) := hK
  have HLL : Hid (∀ b, L b → b < w.heap.size) := hL
  clear hp hq hK hL
  go_enter Tryz.func16, Tryz.ntmps16
  go_wp2_with fail
  go_loopg [13] xs.length (fun gf s30 wx => ∃ i : Nat, s30 = .int .i64 i ∧ i ≤ xs.length ∧ xs.length ≤ i + gf ∧ Hid (Below w.heap.size w wx))
  case atStart => exact ⟨0, rfl, by omega, by omega, Below.refl _ _⟩
  case round =>
    obtain ⟨i, rfl, hi1, hgf, HB⟩ := hrel
    by_cases hi : i < xs.length
    · obtain ⟨g', rfl⟩ : ∃ g', gk = g' + 1 := ⟨gk - 1, by omega⟩
      obtain ⟨b, o, rfl, hKb, hc⟩ := HP.out (by omega)
      obtain ⟨b', o', rfl, hLb, hc'⟩ := HQ.out (by omega)
      obtain ⟨cs, hcl, hcell, hrel1⟩ := hc i hi
      obtain ⟨ds, hdl, hdell, hrel2⟩ := hc' i hi
      obtain ⟨x, hx⟩ : ∃ x, xs[i] = x := ⟨_, rfl⟩
      rw [hx] at hrel1 hrel2
      have hcs := hrel1.1
      have hds := hrel2.1
      have hcell2 : ∀ j u, cs[j]? = some u → wr.cell? ⟨b, o + i * 1 + j, none⟩ = some u := fun j u hj => by rw [HB.out.cell (p := ⟨b, _, none⟩) (HKK.out _ hKb)]; exact hcell j u hj
      have hdell2 : ∀ j u, ds[j]? = some u → wr.cell? ⟨b', o' + i * 1 + j, none⟩ = some u := fun j u hj => by rw [HB.out.cell (p := ⟨b', _, none⟩) (HLL.out _ hLb)]; exact hdell j u hj
      rw [hcs] at hcell2
      rw [hds] at hdell2
      have c0 := hcell2 0 _ rfl
      have e0 := hdell2 0 _ rfl
      simp only [Nat.add_zero, Nat.mul_one] at c0 e0
      obtain ⟨S, hS⟩ : ∃ S : ByteArray, (⟨x.toArray⟩ : ByteArray) = S := ⟨_, rfl⟩
      rw [hS] at c0 e0
      clear hS
      have z0 : (0 : Int) ≤ (i : Int) := by omega
      have z1 : (i : Int) < (xs.length : Int) := by omega
      have hbw := HB.out
      clear hc hc' hcell hdell hcell2 hdell2 hrel1 hrel2 hx HB hcl hdl hKb hLb hcs hds
      go_wp2_with fail
      go_quiet (fail)
      go_wp2_with fail
      go_roundg g'
      case measure => omega
      case rel => exact ⟨i + 1, by go_num, by omega, by omega, below_drewN hbw _⟩
    · have z1 : ¬ (i : Int) < (xs.length : Int) := by omega
      have HB2 : Hid (Below w.heap.size w wr) := HB.out
      clear HB
      go_wp2_with fail
      go_ret
      exact ⟨rfl, HB2.out⟩
set_option maxRecDepth 100000 in
set_option maxHeartbeats 2000000 in
theorem steps_eq (va vb : Value) (xs : List Stp) (K L : Nat → Prop) (w : World) (h : ListIs rStp 3 32 K w va xs) (h' : ListIs rStp 3 32 L w vb xs) (hK : ∀ b, K b → b < w.heap.size) (hL : ∀ b, L b → b < w.heap.size) :
    Calls Tryz.prog 15 #[va, vb] w fun e w' => e = .returned (.bool true) ∧ Below w.heap.size w w' := by
  obtain ⟨p, c, rfl, hby, hp⟩ := h
  obtain ⟨q, d, rfl, _, hq⟩ := h'
  have HP : Hid _ := hp
  have HQ : Hid _ := hq
  have t3 : ((xs.length : Int) != (xs.length : Int)) = false := by simp
  have HKK : Hid (∀ b, K b → b < w.heap.size) := hK
  have HLL : Hid (∀ b, L b → b < w.heap.size) := hL
  clear hp hq hK hL
  go_enter Tryz.func15, Tryz.ntmps15
  go_wp2_with fail
  go_loopg [13] xs.length (fun gf s30 wx => ∃ i : Nat, s30 = .int .i64 i ∧ i ≤ xs.length ∧ xs.length ≤ i + gf ∧ Hid (Below w.heap.size w wx))
  case atStart => exact ⟨0, rfl, by omega, by omega, Below.refl _ _⟩
  case round =>
    obtain ⟨i, rfl, hi1, hgf, HB⟩ := hrel
    by_cases hi : i < xs.length
    · obtain ⟨g', rfl⟩ : ∃ g', gk = g' + 1 := ⟨gk - 1, by omega⟩
      obtain ⟨b, o, rfl, hKb, hc⟩ := HP.out (by omega)
      obtain ⟨b', o', rfl, hLb, hc'⟩ := HQ.out (by omega)
      obtain ⟨cs, hcl, hcell, hrel1⟩ := hc i hi
      obtain ⟨ds, hdl, hdell, hrel2⟩ := hc' i hi
      obtain ⟨x, hx⟩ : ∃ x, xs[i] = x := ⟨_, rfl⟩
      rw [hx] at hrel1 hrel2
      have hcs := hrel1.1
      have hds := hrel2.1
      have hcell2 : ∀ j u, cs[j]? = some u → wr.cell? ⟨b, o + i * 3 + j, none⟩ = some u := fun j u hj => by rw [HB.out.cell (p := ⟨b, _, none⟩) (HKK.out _ hKb)]; exact hcell j u hj
      have hdell2 : ∀ j u, ds[j]? = some u → wr.cell? ⟨b', o' + i * 3 + j, none⟩ = some u := fun j u hj => by rw [HB.out.cell (p := ⟨b', _, none⟩) (HLL.out _ hLb)]; exact hdell j u hj
      rw [hcs] at hcell2
      rw [hds] at hdell2
      have c0 := hcell2 0 _ rfl
      have e0 := hdell2 0 _ rfl
      have c1 := hcell2 1 _ rfl
      have e1 := hdell2 1 _ rfl
      have c2 := hcell2 2 _ rfl
      have e2 := hdell2 2 _ rfl
      simp only [Nat.add_zero, Nat.mul_one] at c0 e0
      obtain ⟨S, hS⟩ : ∃ S : ByteArray, (⟨x.t.toArray⟩ : ByteArray) = S := ⟨_, rfl⟩
      rw [hS] at c1 e1
      clear hS
      have z0 : (0 : Int) ≤ (i : Int) := by omega
      have z1 : (i : Int) < (xs.length : Int) := by omega
      have hbw := HB.out
      clear hc hc' hcell hdell hcell2 hdell2 hrel1 hrel2 hx HB hcl hdl hKb hLb hcs hds
      have hne := run_step_eq (x.k : Int) x.n S
      go_wp2_with fail
      go_quiet (fail)
      go_wp2_with fail
      go_roundg g'
      case measure => omega
      case rel => exact ⟨i + 1, by go_num, by omega, by omega, below_drewN hbw _⟩
    · have z1 : ¬ (i : Int) < (xs.length : Int) := by omega
      have HB2 : Hid (Below w.heap.size w wr) := HB.out
      clear HB
      go_wp2_with fail
      go_ret
      exact ⟨rfl, HB2.out⟩
set_option maxRecDepth 100000 in
set_option maxHeartbeats 8000000 in
theorem same_eq (K L : Nat → Prop) (pi pw pg pj px py : Option Addr) (ci cw cg cj cx cy : Nat) (q : Qry) (w : World) (h : QLs K w pi pw pg ci cw cg q) (h' : QLs L w pj px py cj cx cy q) (hK : ∀ b, K b → b < w.heap.size) (hL : ∀ b, L b → b < w.heap.size) :
    Calls Tryz.prog 8 #[.agg (q.cl (.slice pi q.i.length ci) (.slice pw q.w.length cw) (.slice pg q.g.length cg)), .agg (q.cl (.slice pj q.i.length cj) (.slice px q.w.length cx) (.slice py q.g.length cy))] w fun e w' => e = .returned (.bool true) ∧ Below w.heap.size w w' := by
  obtain ⟨s0, hs0⟩ : ∃ s : ByteArray, (⟨q.t.toArray⟩ : ByteArray) = s := ⟨_, rfl⟩
  obtain ⟨s1, hs1⟩ : ∃ s : ByteArray, (⟨q.j.toArray⟩ : ByteArray) = s := ⟨_, rfl⟩
  obtain ⟨s2, hs2⟩ : ∃ s : ByteArray, (⟨q.a.toArray⟩ : ByteArray) = s := ⟨_, rfl⟩
  obtain ⟨s3, hs3⟩ : ∃ s : ByteArray, (⟨q.b.toArray⟩ : ByteArray) = s := ⟨_, rfl⟩
  obtain ⟨ni, hni⟩ : ∃ n, q.i.length = n := ⟨_, rfl⟩
  obtain ⟨nw, hnw⟩ : ∃ n, q.w.length = n := ⟨_, rfl⟩
  obtain ⟨ng, hng⟩ : ∃ n, q.g.length = n := ⟨_, rfl⟩
  have hcl : q.cl (.slice pi q.i.length ci) (.slice pw q.w.length cw) (.slice pg q.g.length cg) = #[.slice pi ni ci, .string s0, .string s1, .string s2, .string s3, .slice pw nw cw, .slice pg ng cg] := by unfold Qry.cl; rw [hs0, hs1, hs2, hs3, hni, hnw, hng]
  have hcl2 : q.cl (.slice pj q.i.length cj) (.slice px q.w.length cx) (.slice py q.g.length cy) = #[.slice pj ni cj, .string s0, .string s1, .string s2, .string s3, .slice px nw cx, .slice py ng cy] := by unfold Qry.cl; rw [hs0, hs1, hs2, hs3, hni, hnw, hng]
  have HN : Hid (q.i.length = ni) := hni
  obtain ⟨W0, hW0, hb0, hz0, g0, g1⟩ := two_boxes2 w #[.slice pi ni ci, .string s0, .string s1, .string s2, .string s3, .slice pw nw cw, .slice pg ng cg] #[.slice pj ni cj, .string s0, .string s1, .string s2, .string s3, .slice px nw cx, .slice py ng cy] 27 27
  have HG : Hid (∀ V, Below W0.heap.size W0 V → V.heap[w.heap.size]? = some (.cells #[.slice pi ni ci, .string s0, .string s1, .string s2, .string s3, .slice pw nw cw, .slice pg ng cg] 27 (0, 0)) ∧ V.heap[w.heap.size + 1]? = some (.cells #[.slice pj ni cj, .string s0, .string s1, .string s2, .string s3, .slice px nw cx, .slice py ng cy] 27 (0, 0)) ∧ Below w.heap.size w V) := fun V hb => ⟨(hb.block _ (by omega)).trans g0, (hb.block _ (by omega)).trans g1, hb0.trans (hb.mono hb0.size)⟩
  have CS : Hid (Calls Tryz.prog 15 #[.slice pw nw cw, .slice px nw cx] W0 fun e w' => e = .returned (.bool true) ∧ Below W0.heap.size W0 w') := by have := steps_eq _ _ q.w K L W0 ((h.below hK hb0).lw) ((h'.below hL hb0).lw) (fun b hb => Nat.lt_of_lt_of_le (hK b hb) hb0.size) (fun b hb => Nat.lt_of_lt_of_le (hL b hb) hb0.size); rw [hnw] at this; exact this
  have CT : Hid (∀ V, Below W0.heap.size W0 V → Calls Tryz.prog 16 #[.slice pg ng cg, .slice py ng cy] V fun e w' => e = .returned (.bool true) ∧ Below V.heap.size V w') := fun V hb => by have hbw := hb0.trans (hb.mono hb0.size); have := texts_eq _ _ q.g K L V ((h.below hK hbw).lg) ((h'.below hL hbw).lg) (fun b hb => Nat.lt_of_lt_of_le (hK b hb) hbw.size) (fun b hb => Nat.lt_of_lt_of_le (hL b hb) hbw.size); rw [hng] at this; exact this
  have hni9 : ni ≤ 4398046511104 := by
    obtain ⟨_, _, _, ⟨hb, _⟩, _⟩ := h.li
    omega
  have HLI := hid (And.intro h.li h'.li)
  have HKK := hid hK
  have HLL := hid hL
  have a1 := cell_of_row (k := 1) (v := .string s0) g0 rfl
  have a2 := cell_of_row (k := 2) (v := .string s1) g0 rfl
  have a3 := cell_of_row (k := 3) (v := .string s2) g0 rfl
  have a4 := cell_of_row (k := 4) (v := .string s3) g0 rfl
  have a5 := cell_of_row (k := 5) (v := .slice pw nw cw) g0 rfl
  have b1 := cell_of_row (k := 1) (v := .string s0) g1 rfl
  have b2 := cell_of_row (k := 2) (v := .string s1) g1 rfl
  have b3 := cell_of_row (k := 3) (v := .string s2) g1 rfl
  have b4 := cell_of_row (k := 4) (v := .string s3) g1 rfl
  have b5 := cell_of_row (k := 5) (v := .slice px nw cx) g1 rfl
  rw [hcl, hcl2]
  clear h h' hK hL hs0 hs1 hs2 hs3 hni hnw hng hcl hcl2 hb0 g0 g1 hz0
  go_enter Tryz.func8, Tryz.ntmps8
  go_wp2_with fail
  refine CS.out.mono ?_
  rintro e w1 ⟨rfl, hb1⟩
  obtain ⟨k0, k1, _⟩ := HG.out w1 hb1
  have a6 := cell_of_row (k := 6) (v := .slice pg ng cg) k0 rfl
  have b6 := cell_of_row (k := 6) (v := .slice py ng cy) k1 rfl
  have C2 := hid (CT.out w1 hb1)
  have HB1 := hid hb1
  clear CS CT hb1 k0 k1 a1 a2 a3 a4 a5 b1 b2 b3 b4 b5 hW0
  go_wp2_with fail
  refine C2.out.mono ?_
  rintro e w2 ⟨rfl, hb2⟩
  have hbw2 : Below W0.heap.size W0 w2 := HB1.out.trans (hb2.mono HB1.out.size)
  obtain ⟨k0, k1, _⟩ := HG.out w2 hbw2
  have a0 := cell_of_row (k := 0) (v := .slice pi ni ci) k0 rfl
  have b0 := cell_of_row (k := 0) (v := .slice pj ni cj) k1 rfl
  have HB2 := hid hbw2
  clear C2 hb2 hbw2 k0 k1 a6 b6 HB1
  go_wp2_with fail
  go_loopg [60] ni (fun gf s60 wx => ∃ i : Nat, s60 = .int .i64 i ∧ i ≤ ni ∧ ni ≤ i + gf ∧ Hid (Below W0.heap.size W0 wx))
  case atStart => exact ⟨0, rfl, by omega, by omega, HB2⟩
  case round =>
    clear HB2 a0 b0
    obtain ⟨i, rfl, hi1, hgf, HB⟩ := hrel
    obtain ⟨k0, k1, hbw⟩ := HG.out wr HB.out
    by_cases hi : i < ni
    · obtain ⟨g', rfl⟩ : ∃ g', gk = g' + 1 := ⟨gk - 1, by omega⟩
      have hil : i < q.i.length := by rw [HN.out]; exact hi
      have hkr : ∀ b, K b → b < wr.heap.size := fun b hb => Nat.lt_of_lt_of_le (HKK.out b hb) hbw.size
      have hlr : ∀ b, L b → b < wr.heap.size := fun b hb => Nat.lt_of_lt_of_le (HLL.out b hb) hbw.size
      obtain ⟨b, o, hp1, hKb, hc⟩ := itm_at (HLI.out.1.mono mItm (fun _ h => h) (kept_of HKK.out hbw)) (by omega)
      obtain ⟨b', o', hp2, hLb, hc'⟩ := itm_at (HLI.out.2.mono mItm (fun _ h => h) (kept_of HLL.out hbw)) (by omega)
      subst hp1
      subst hp2
      obtain ⟨u1, f1, hr1, hl1, -⟩ := hc i hil
      obtain ⟨u2, f2, hr2, hl2, -⟩ := hc' i hil
      obtain ⟨y, hy⟩ : ∃ y, q.i[i] = y := ⟨_, rfl⟩
      rw [hy] at hr1 hl1 hr2 hl2
      have n5 : ((y.g : Int) != (y.g : Int)) = false := by simp
      have cS : Hid (∀ p : LaterS wr.heap.size wr, Calls Tryz.prog 15 #[.slice u1 y.e.length f1, .slice u2 y.e.length f2] p.w fun e w' => e = .returned (.bool true) ∧ Below p.w.heap.size p.w w') := fun p =>
        steps_eq _ _ y.e K L p.w (hl1.later mStp hkr p.h) (hl2.later mStp hlr p.h) (fun b hb => Nat.lt_of_lt_of_le (hkr b hb) p.h.size) (fun b hb => Nat.lt_of_lt_of_le (hlr b hb) p.h.size)
      have c0 : ∀ p : LaterS wr.heap.size wr, p.w.cell? ⟨b, o + i * 2, none⟩ = some (.int .u8 (y.g : Int)) := fun p => (p.h.cell (p := ⟨b, _, none⟩) (hkr _ hKb)).trans (hr1 0 _ rfl)
      have c1 : ∀ p : LaterS wr.heap.size wr, p.w.cell? ⟨b, o + i * 2 + 1, none⟩ = some (.slice u1 y.e.length f1) := fun p => (p.h.cell (p := ⟨b, _, none⟩) (hkr _ hKb)).trans (hr1 1 _ rfl)
      have e0 : ∀ p : LaterS wr.heap.size wr, p.w.cell? ⟨b', o' + i * 2, none⟩ = some (.int .u8 (y.g : Int)) := fun p => (p.h.cell (p := ⟨b', _, none⟩) (hlr _ hLb)).trans (hr2 0 _ rfl)
      have e1 : ∀ p : LaterS wr.heap.size wr, p.w.cell? ⟨b', o' + i * 2 + 1, none⟩ = some (.slice u2 y.e.length f2) := fun p => (p.h.cell (p := ⟨b', _, none⟩) (hlr _ hLb)).trans (hr2 1 _ rfl)
      have m0 : ∀ p : LaterS wr.heap.size wr, p.w.cell? ⟨w.heap.size, 0, none⟩ = some (.slice (some ⟨b, o, none⟩) ni ci) := fun p => cell_of_row (k := 0) (HG.out p.w (HB.out.trans (p.h.mono HB.out.size))).1 rfl
      have m1 : ∀ p : LaterS wr.heap.size wr, p.w.cell? ⟨w.heap.size + 1, 0, none⟩ = some (.slice (some ⟨b', o', none⟩) ni cj) := fun p => cell_of_row (k := 0) (HG.out p.w (HB.out.trans (p.h.mono HB.out.size))).2.1 rfl
      have z0 : (0 : Int) ≤ (i : Int) := by omega
      have z1 : (i : Int) < (ni : Int) := by omega
      have HB3 : Hid (Below W0.heap.size W0 wr) := HB.out
      clear hc hc' hr1 hr2 hl1 hl2 hy HB hKb hLb hkr hlr hbw k0 k1 hil
      go_wp2_with fail
      have inhL := laterInh
      refine wp_region_laterS mixedOnS (by kernel_rfl) ?_
      repeat (go_big_quiet_step ((go_at_call 15; exact calls_laterS (cS.out _))))
      refine wpQuiet_nil ?_
      intro w2 hw'
      obtain ⟨⟨wq, hwq⟩, hw''⟩ := hw'
      subst hw''
      go_wp2_with fail
      go_roundg g'
      case measure => omega
      case rel => exact ⟨i + 1, by go_num, by omega, by omega, HB3.out.trans (hwq.mono HB3.out.size)⟩
    · have z1 : ¬ (i : Int) < (ni : Int) := by omega
      have HBW := hid hbw
      clear HB k0 k1 hbw
      go_wp2_with fail
      go_ret
      exact ⟨rfl, HBW.out⟩
end Go.Proofs.YthpcpaggbhgcoaaGreatDoor
/- Once read, a query is read of its own text: the walk of ParseOnce. -/
namespace Go.Proofs.YthpcpaggbhgcoaaGreatDoor
open Go.Shelf Go.RowKit Go.Lib Go.Sort
set_option linter.unusedVariables false
set_option linter.unusedSimpArgs false
attribute [local go_sem ↓] Go.wp_at_zero Go.wp_at_succ
theorem ls_zero (K : Nat → Prop) (W : World) : QLs K W none none none 0 0 0 zeroQ :=
  ⟨⟨_, _, rfl, by simp [zeroQ], fun h => absurd h (by simp [zeroQ])⟩, ⟨_, _, rfl, by simp [zeroQ], fun h => absurd h (by simp [zeroQ])⟩, ⟨_, _, rfl, by simp [zeroQ], fun h => absurd h (by simp [zeroQ])⟩, by simp [zeroQ], by simp [zeroQ], by simp [zeroQ], by simp [zeroQ]⟩
set_option maxRecDepth 100000 in
set_option maxHeartbeats 16000000 in
theorem once_bad (s : ByteArray) (w : World) (hs : s.size ≤ 9223372036854775807) (h : GA w) (y a : Int) (hpq : parseP s.data.toList = (zeroQ, y, a)) (hy : y ≠ 0) (ha0 : 0 ≤ a) (ha1 : a ≤ s.data.toList.length) : Calls Tryz.prog 3 #[.string s] w fun e w' => e = .returned (.bool true) ∧ Below w.heap.size w w' := by
  have HG := hid h
  have C1 := hid (lives_any w h)
  have HPQ := hid hpq
  have hsz : s.data.toList.length = s.size := by simp
  rw [hsz] at ha1
  clear h hpq hsz
  go_enter Tryz.func3, Tryz.ntmps3
  go_wp2_with fail
  refine C1.out.mono ?_
  rintro e w1 ⟨rfl, hb1⟩
  have hG1 := HG.out.below hb1
  have C2 : Hid (Calls Tryz.prog 7 #[.string s] w1 fun e w' => OutP w1 (zeroQ, y, a) e w') := by have := parse_any s w1 hs hG1.g2.1 hG1.gw hG1.h10; rw [HPQ.out] at this; exact this
  have HB1 := hid hb1
  clear C1 hb1 hG1 HG HPQ
  go_wp2_with fail
  refine C2.out.mono ?_
  rintro e w2 ⟨v, rfl, ⟨vi, vw, vg, rfl, hin⟩, hb2⟩
  obtain ⟨pi, ci, pw, cw, pg, cg, rfl, rfl, rfl, hls⟩ := hin.ls
  rw [show zeroQ.cl (.slice pi zeroQ.i.length ci) (.slice pw zeroQ.w.length cw) (.slice pg zeroQ.g.length cg) = #[.slice pi 0 ci, .string ⟨#[]⟩, .string ⟨#[]⟩, .string ⟨#[]⟩, .string ⟨#[]⟩, .slice pw 0 cw, .slice pg 0 cg] from rfl]
  have C3 : Hid (∀ W, Below w2.heap.size w2 W → Calls Tryz.prog 8 #[.agg #[.slice pi 0 ci, .string ⟨#[]⟩, .string ⟨#[]⟩, .string ⟨#[]⟩, .string ⟨#[]⟩, .slice pw 0 cw, .slice pg 0 cg], .agg #[.slice none 0 0, .string ⟨#[]⟩, .string ⟨#[]⟩, .string ⟨#[]⟩, .string ⟨#[]⟩, .slice none 0 0, .slice none 0 0]] W fun e w' => e = .returned (.bool true) ∧ Below W.heap.size W w') := fun W hW =>
    same_eq _ (fun _ => False) pi pw pg none none none ci cw cg 0 0 0 zeroQ W (hls.below (fun b hb => hb.2) hW) (ls_zero _ _) (fun b hb => Nat.lt_of_lt_of_le hb.2 hW.size) (fun b hb => hb.elim)
  have HB2 := hid (HB1.out.trans (hb2.mono HB1.out.size))
  clear C2 hin hls hb2 HB1
  go_wp2_with fail
  refine (C3.out _ (below_alloc _ _)).mono ?_
  rintro e w3 ⟨rfl, hb3⟩
  have HB3 : Hid (Below w.heap.size w w3) := HB2.out.trans (((below_alloc _ _).trans (hb3.mono (below_alloc _ _).size)).mono HB2.out.size)
  clear hb3
  go_wp2_with fail
  go_ret
  exact ⟨rfl, HB3.out⟩
set_option maxRecDepth 100000 in
set_option maxHeartbeats 16000000 in
theorem once_good (s : ByteArray) (w : World) (hs : s.size ≤ 9223372036854775807) (h : GA w) (q : Qry) (hpq : parseP s.data.toList = (q, 0, 0)) (hok : queryOkP q = true) (hf : FitQ q) : Calls Tryz.prog 3 #[.string s] w fun e w' => e = .returned (.bool true) ∧ Below w.heap.size w w' := by
  have HG := hid h
  have C1 := hid (lives_any w h)
  have HPQ := hid hpq
  have hck : checkQ q = 0 := by unfold checkQ; rw [if_pos hok]
  have hpr : printP q = (queryTextP q, 0) := by unfold printP; rw [hck]; rfl
  have HCK := hid (And.intro hck hpr)
  have hln := text_len hok hf.num
  obtain ⟨T, hT⟩ : ∃ T : ByteArray, (⟨(queryTextP q).toArray⟩ : ByteArray) = T := ⟨_, rfl⟩
  have hTl : T.data.toList = queryTextP q := by rw [← hT]
  have hTs : T.size = (queryTextP q).length := by rw [← hTl]; simp
  have hTb : T.size ≤ 1000000000 := by omega
  have HC := hid (parse_print hok hf)
  have HT := hid (And.intro hT (And.intro hTl hTs))
  clear h hpq hck hpr hln hT hTl hTs
  go_enter Tryz.func3, Tryz.ntmps3
  go_wp2_with fail
  refine C1.out.mono ?_
  rintro e w1 ⟨rfl, hb1⟩
  have hG1 := HG.out.below hb1
  have C2 : Hid (Calls Tryz.prog 7 #[.string s] w1 fun e w' => OutP w1 (q, 0, 0) e w') := by have := parse_any s w1 hs hG1.g2.1 hG1.gw hG1.h10; rw [HPQ.out] at this; exact this
  have HB1 := hid hb1
  have HG1 := hid hG1
  clear C1 hb1 hG1 HG HPQ
  go_wp2_with fail
  refine C2.out.mono ?_
  rintro e w2 ⟨v, rfl, ⟨vi, vw, vg, rfl, hin⟩, hb2⟩
  obtain ⟨pi, ci, pw, cw, pg, cg, rfl, rfl, rfl, hls⟩ := hin.ls
  obtain ⟨s0, hs0⟩ : ∃ s : ByteArray, (⟨q.t.toArray⟩ : ByteArray) = s := ⟨_, rfl⟩
  obtain ⟨s1, hs1⟩ : ∃ s : ByteArray, (⟨q.j.toArray⟩ : ByteArray) = s := ⟨_, rfl⟩
  obtain ⟨s2, hs2⟩ : ∃ s : ByteArray, (⟨q.a.toArray⟩ : ByteArray) = s := ⟨_, rfl⟩
  obtain ⟨s3, hs3⟩ : ∃ s : ByteArray, (⟨q.b.toArray⟩ : ByteArray) = s := ⟨_, rfl⟩
  obtain ⟨ni, hni⟩ : ∃ n, q.i.length = n := ⟨_, rfl⟩
  obtain ⟨nw, hnw⟩ : ∃ n, q.w.length = n := ⟨_, rfl⟩
  obtain ⟨ng, hng⟩ : ∃ n, q.g.length = n := ⟨_, rfl⟩
  have hcl : ∀ (a b c : Option Addr) (x y z : Nat), q.cl (.slice a q.i.length x) (.slice b q.w.length y) (.slice c q.g.length z) = #[.slice a ni x, .string s0, .string s1, .string s2, .string s3, .slice b nw y, .slice c ng z] := fun a b c x y z => by rw [← hs0, ← hs1, ← hs2, ← hs3, ← hni, ← hnw, ← hng]; rfl
  have HCL := hid hcl
  rw [hcl]
  have HG2 := hid (HG1.out.below hb2)
  have C3 : Hid (∀ W, Below w2.heap.size w2 W → Calls Tryz.prog 9 #[.agg #[.slice pi ni ci, .string s0, .string s1, .string s2, .string s3, .slice pw nw cw, .slice pg ng cg]] W fun e w' => e = .returned (.tuple #[.string T, .int .i64 0]) ∧ Below W.heap.size W w') := fun W hW => by
    have hGW := HG2.out.below hW
    have := print_any _ pi pw pg ci cw cg q W (hls.below (fun b hb => hb.2) hW) (fun b hb => Nat.lt_of_lt_of_le hb.2 hW.size) hGW.gw hGW.g2
    rw [HCL.out, HCK.out.2, HT.out.1] at this
    exact this
  have C5 : Hid (∀ W, Below w2.heap.size w2 W → Calls Tryz.prog 10 #[.agg #[.slice pi ni ci, .string s0, .string s1, .string s2, .string s3, .slice pw nw cw, .slice pg ng cg]] W fun e w' => e = .returned (.int .i64 0) ∧ Below W.heap.size W w') := fun W hW => by
    have hGW := HG2.out.below hW
    have := check_any _ pi pw pg ci cw cg q W (hls.below (fun b hb => hb.2) hW) (fun b hb => Nat.lt_of_lt_of_le hb.2 hW.size) hGW.gw
    rw [HCL.out, HCK.out.1] at this
    exact this
  have HLS := hid hls
  have HB2 := hid (HB1.out.trans (hb2.mono HB1.out.size))
  clear C2 hin hs0 hs1 hs2 hs3 hni hnw hng hcl hls hb2 HB1 HG1
  go_wp2_with fail
  refine (C3.out _ (below_alloc _ _)).mono ?_
  rintro e w3 ⟨rfl, hb3⟩
  have HB23 : Hid (Below w2.heap.size w2 w3) := (below_alloc _ _).trans (hb3.mono (below_alloc _ _).size)
  have HR3 : Hid (w3.rangeAt w2.heap.size 0 [.slice pi ni ci, .string s0, .string s1, .string s2, .string s3, .slice pw nw cw, .slice pg ng cg]) := range_box (cl := [.slice pi ni ci, .string s0, .string s1, .string s2, .string s3, .slice pw nw cw, .slice pg ng cg]) (heap_alloc_new w2 _) hb3
  have HSZ : Hid (w2.heap.size < w3.heap.size) := by have := hb3.size; rw [show (w2.alloc (Obj.cells #[.slice pi ni ci, .string s0, .string s1, .string s2, .string s3, .slice pw nw cw, .slice pg ng cg] 27)).heap.size = w2.heap.size + 1 by simp] at this; exact this
  have hG3 := HG2.out.below HB23.out
  obtain ⟨p, y3, a3, hp3, hcase⟩ : ∃ p y a, parseP (queryTextP q) = (p, y, a) ∧ ((p = q ∧ y = 0) ∨ (p = zeroQ ∧ y = 10) ∨ (p = zeroQ ∧ y = 4 ∧ 2048 < (queryTextP q).length)) := by
    rcases HC.out with h | ⟨a, h⟩ | ⟨a, h, hl⟩
    · exact ⟨_, _, _, h, .inl ⟨rfl, rfl⟩⟩
    · exact ⟨_, _, _, h, .inr (.inl ⟨rfl, rfl⟩)⟩
    · exact ⟨_, _, _, h, .inr (.inr ⟨rfl, rfl, hl⟩)⟩
  have C4 : Hid (Calls Tryz.prog 7 #[.string T] w3 fun e w' => OutP w3 (p, y3, a3) e w') := by have := parse_any T w3 (by omega) hG3.g2.1 hG3.gw hG3.h10; rw [HT.out.2.1, hp3] at this; exact this
  have HCASE := hid hcase
  clear C3 hb3 hG3 hp3 hcase HC
  go_wp2_with fail
  refine C4.out.mono ?_
  rintro e w4 ⟨v, rfl, ⟨vi, vw, vg, rfl, hin⟩, hb4⟩
  obtain ⟨qi, di, qw, dw, qg, dg, rfl, rfl, rfl, hls⟩ := hin.ls
  have HB24 : Hid (Below w2.heap.size w2 w4) := HB23.out.trans (hb4.mono HB23.out.size)
  have HR4 : Hid (w4.rangeAt w2.heap.size 0 [.slice pi ni ci, .string s0, .string s1, .string s2, .string s3, .slice pw nw cw, .slice pg ng cg]) := fun j u hu => (hb4.cell (World.block_lt_of_cell? w3 _ (HR3.out j u hu))).trans (HR3.out j u hu)
  rcases HCASE.out with ⟨rfl, rfl⟩ | ⟨rfl, rfl⟩ | ⟨rfl, rfl, hlong⟩
  · rw [HCL.out]
    have HLS4 := hid hls
    have HS4 : Hid (w3.heap.size ≤ w4.heap.size) := hb4.size
    have HBV : Hid (Below w2.heap.size w2 (w4.alloc (Obj.cells #[.slice qi ni di, .string s0, .string s1, .string s2, .string s3, .slice qw nw dw, .slice qg ng dg] 27))) := HB24.out.trans ((below_alloc _ _).mono HB24.out.size)
    have HRG : Hid ((w4.alloc (Obj.cells #[.slice qi ni di, .string s0, .string s1, .string s2, .string s3, .slice qw nw dw, .slice qg ng dg] 27)).rangeAt w2.heap.size 0 [.slice pi ni ci, .string s0, .string s1, .string s2, .string s3, .slice pw nw cw, .slice pg ng cg]) := fun j u hu => ((below_alloc w4 _).cell (World.block_lt_of_cell? w4 _ (HR4.out j u hu))).trans (HR4.out j u hu)
    clear C4 hin hls hb4 HCASE HR3 HB23 HR4
    go_wp2_with (first | (refine wpList_load_midH (by rfl) 27 _ rfl w2.heap.size 0 rfl _ _ HRG.out Tryz.underlying27 rfl sz_qry ?_))
    refine (C5.out _ HBV.out).mono ?_
    rintro e w5 ⟨rfl, hb5⟩
    have HB5 : Hid (Below w.heap.size w w5) := HB2.out.trans ((HBV.out.trans (hb5.mono HBV.out.size)).mono HB2.out.size)
    have HRQ : Hid (w5.rangeAt w2.heap.size 0 [.slice pi ni ci, .string s0, .string s1, .string s2, .string s3, .slice pw nw cw, .slice pg ng cg]) := fun j u hu => (hb5.cell (World.block_lt_of_cell? _ _ (HRG.out j u hu))).trans (HRG.out j u hu)
    have HRP : Hid (w5.rangeAt w4.heap.size 0 [.slice qi ni di, .string s0, .string s1, .string s2, .string s3, .slice qw nw dw, .slice qg ng dg]) := range_box (cl := [.slice qi ni di, .string s0, .string s1, .string s2, .string s3, .slice qw nw dw, .slice qg ng dg]) (heap_alloc_new w4 _) hb5
    have hb45 : Below w4.heap.size w4 w5 := (below_alloc _ _).trans (hb5.mono (below_alloc _ _).size)
    have hb25 : Below w2.heap.size w2 w5 := HBV.out.trans (hb5.mono HBV.out.size)
    have C8 : Hid (Calls Tryz.prog 8 #[.agg #[.slice qi ni di, .string s0, .string s1, .string s2, .string s3, .slice qw nw dw, .slice qg ng dg], .agg #[.slice pi ni ci, .string s0, .string s1, .string s2, .string s3, .slice pw nw cw, .slice pg ng cg]] w5 fun e w' => e = .returned (.bool true) ∧ Below w5.heap.size w5 w') := by
      have := same_eq _ _ qi qw qg pi pw pg di dw dg ci cw cg p w5 (HLS4.out.below (fun b hb => hb.2) hb45) (HLS.out.below (fun b hb => hb.2) hb25) (fun b hb => Nat.lt_of_lt_of_le hb.2 hb45.size) (fun b hb => Nat.lt_of_lt_of_le hb.2 hb25.size)
      rw [HCL.out, HCL.out] at this
      exact this
    clear C5 hb5 hb45 hb25 HBV HRG HLS4 HLS
    have HRG := HRQ
    go_wp2_with (first | (refine wpList_load_midH (by rfl) 27 _ rfl w2.heap.size 0 rfl _ _ HRG.out Tryz.underlying27 rfl sz_qry ?_) | (refine wpList_load_midH (by rfl) 27 _ rfl w4.heap.size 0 rfl _ _ HRP.out Tryz.underlying27 rfl sz_qry ?_))
    refine C8.out.mono ?_
    rintro e w6 ⟨rfl, hb6⟩
    have HB6 : Hid (Below w.heap.size w w6) := HB5.out.trans (hb6.mono HB5.out.size)
    clear C8 hb6
    go_wp2_with fail
    go_ret
    exact ⟨rfl, HB6.out⟩
  · rw [show zeroQ.cl (.slice qi zeroQ.i.length di) (.slice qw zeroQ.w.length dw) (.slice qg zeroQ.g.length dg) = #[.slice qi 0 di, .string ⟨#[]⟩, .string ⟨#[]⟩, .string ⟨#[]⟩, .string ⟨#[]⟩, .slice qw 0 dw, .slice qg 0 dg] from rfl]
    have HBV : Hid (Below w2.heap.size w2 (w4.alloc (Obj.cells #[.slice qi 0 di, .string ⟨#[]⟩, .string ⟨#[]⟩, .string ⟨#[]⟩, .string ⟨#[]⟩, .slice qw 0 dw, .slice qg 0 dg] 27))) := HB24.out.trans ((below_alloc _ _).mono HB24.out.size)
    have HRG : Hid ((w4.alloc (Obj.cells #[.slice qi 0 di, .string ⟨#[]⟩, .string ⟨#[]⟩, .string ⟨#[]⟩, .string ⟨#[]⟩, .slice qw 0 dw, .slice qg 0 dg] 27)).rangeAt w2.heap.size 0 [.slice pi ni ci, .string s0, .string s1, .string s2, .string s3, .slice pw nw cw, .slice pg ng cg]) := fun j u hu => ((below_alloc w4 _).cell (World.block_lt_of_cell? w4 _ (HR4.out j u hu))).trans (HR4.out j u hu)
    clear C4 hin hls hb4 HCASE HR3 HB23 HR4
    go_wp2_with (first | (refine wpList_load_midH (by rfl) 27 _ rfl w2.heap.size 0 rfl _ _ HRG.out Tryz.underlying27 rfl sz_qry ?_))
    refine (C5.out _ HBV.out).mono ?_
    rintro e w5 ⟨rfl, hb5⟩
    have HB5 : Hid (Below w.heap.size w w5) := HB2.out.trans ((HBV.out.trans (hb5.mono HBV.out.size)).mono HB2.out.size)
    clear C5 hb5 HBV HRG
    go_wp2_with fail
    go_ret
    exact ⟨rfl, HB5.out⟩
  · rw [show zeroQ.cl (.slice qi zeroQ.i.length di) (.slice qw zeroQ.w.length dw) (.slice qg zeroQ.g.length dg) = #[.slice qi 0 di, .string ⟨#[]⟩, .string ⟨#[]⟩, .string ⟨#[]⟩, .string ⟨#[]⟩, .slice qw 0 dw, .slice qg 0 dg] from rfl]
    have z0 : (2048 : Int) < (T.size : Int) := by rw [HT.out.2.2]; omega
    clear hlong
    have HBV : Hid (Below w2.heap.size w2 (w4.alloc (Obj.cells #[.slice qi 0 di, .string ⟨#[]⟩, .string ⟨#[]⟩, .string ⟨#[]⟩, .string ⟨#[]⟩, .slice qw 0 dw, .slice qg 0 dg] 27))) := HB24.out.trans ((below_alloc _ _).mono HB24.out.size)
    have HRG : Hid ((w4.alloc (Obj.cells #[.slice qi 0 di, .string ⟨#[]⟩, .string ⟨#[]⟩, .string ⟨#[]⟩, .string ⟨#[]⟩, .slice qw 0 dw, .slice qg 0 dg] 27)).rangeAt w2.heap.size 0 [.slice pi ni ci, .string s0, .string s1, .string s2, .string s3, .slice pw nw cw, .slice pg ng cg]) := fun j u hu => ((below_alloc w4 _).cell (World.block_lt_of_cell? w4 _ (HR4.out j u hu))).trans (HR4.out j u hu)
    clear C4 hin hls hb4 HCASE HR3 HB23 HR4
    go_wp2_with (first | (refine wpList_load_midH (by rfl) 27 _ rfl w2.heap.size 0 rfl _ _ HRG.out Tryz.underlying27 rfl sz_qry ?_))
    refine (C5.out _ HBV.out).mono ?_
    rintro e w5 ⟨rfl, hb5⟩
    have HB5 : Hid (Below w.heap.size w w5) := HB2.out.trans ((HBV.out.trans (hb5.mono HBV.out.size)).mono HB2.out.size)
    clear C5 hb5 HBV HRG
    go_wp2_with fail
    go_ret
    exact ⟨rfl, HB5.out⟩
theorem once_walk (s : ByteArray) (w : World) (hs : s.size ≤ 9223372036854775807) (h : GA w) : Calls Tryz.prog 3 #[.string s] w fun e w' => e = .returned (.bool true) ∧ Below w.heap.size w w' := by
  rcases parse_form s.data.toList with ⟨q, h1, h2, h3⟩ | ⟨y, a, h1, h2, h3, h4⟩
  · exact once_good s w hs h q h1 h2 h3
  · exact once_bad s w hs h y a h1 h2 h3 h4
end Go.Proofs.YthpcpaggbhgcoaaGreatDoor
/- What the listed variables give the walks. -/
namespace Go.Proofs.YthpcpaggbhgcoaaGreatDoor
open Go.RowKit Go.Lib
theorem own : ownKnob Tryz.prog.godebug = none := by kernel_rfl
def bruTab : List Int := [0, 1, 56, 2, 57, 49, 28, 3, 61, 58, 42, 50, 38, 29, 17, 4, 62, 47, 59, 36, 45, 43, 51, 22, 53, 39, 33, 30, 24, 18, 12, 5, 63, 55, 48, 27, 60, 41, 37, 16, 46, 35, 44, 21, 52, 32, 23, 11, 54, 26, 40, 15, 34, 20, 31, 10, 25, 14, 19, 9, 13, 8, 7, 6]
theorem bru_eq : (Rows.laid_math_bits_deBruijn64tab : DataW Unit) = Lib.tabData .u8 bruTab := by kernel_rfl
theorem pow_eq : (Rows.laid_internal_strconv_uint64pow10 : DataW Unit) = Lib.tabData .u64 Lib.pow10Tab := by kernel_rfl
theorem accept_eq : (Rows.laid_unicode_utf8_acceptRanges : DataW Unit) = Lib.acceptData := by kernel_rfl
/-- A table of pairs of a text and a number, as a row lists it. -/
def pairData (l : List (List UInt8 × Nat)) : DataW Unit := .agg (l.map fun x => .agg [.lit (.string x.1), .lit (.int .u8 (x.2 : Int))])
theorem words_eq : (Rows.laid_potsherd_parse_words : DataW Unit) = pairData wordsP := by kernel_rfl
theorem aggs_eq : (Rows.laid_potsherd_parse_aggregates : DataW Unit) = pairData aggsP := by kernel_rfl
theorem flat_pair {α : Type} (a b : α → Value) : ∀ (l : List α) (i : Nat), (l.flatMap fun x => [a x, b x])[2 * i]? = l[i]?.map a ∧ (l.flatMap fun x => [a x, b x])[2 * i + 1]? = l[i]?.map b
  | [], i => by simp
  | x :: l, 0 => by simp
  | x :: l, i + 1 => by
    have := flat_pair a b l i
    simpa [List.flatMap_cons, Nat.mul_add] using this
/-- Such a table, cell for cell. -/
theorem pairs_reads {W : World} {name : String} {l : List (List UInt8 × Nat)} {g : Nat} {t e : TypeId} {n : Nat} {fs : Array Field} {f0 f1 : Field} (hl : l.length = n)
    (hg : Tryz.prog.globalNamed name = some g) (hty : (Tryz.prog.globals[g]?).map (·.type) = some t) (ht : Tryz.prog.underlying t = some (.array n e)) (he : Tryz.prog.underlying e = some (.struct fs)) (hce : Tryz.prog.cellsOf e = 2)
    (h0 : fs[0]? = some f0) (h1 : fs[1]? = some f1) (u0 : Tryz.prog.underlying f0.type = some .string) (u1 : Tryz.prog.underlying f1.type = some (.int .u8)) (o0 : f0.offset = 0) (o1 : f1.offset = 1) (c0 : Tryz.prog.cellsOf f0.type = 1) (c1 : Tryz.prog.cellsOf f1.type = 1)
    (h : VarReads Tryz.prog W name (pairData l)) : W.rangeAt g 0 (l.flatMap fun x => [.string ⟨x.1.toArray⟩, .int .u8 (x.2 : Int)]) := by
  obtain ⟨g', t', cs, fuel, p, hg', ht', hvar, hd⟩ := h
  obtain rfl := Option.some.inj (hg.symm.trans hg')
  obtain rfl := Option.some.inj (hty.symm.trans ht')
  have hc := World.var?_cell hg hvar
  have key : ∀ (i : Nat) (x : List UInt8 × Nat), l[i]? = some x → cs[2 * i]? = some (.string ⟨x.1.toArray⟩) ∧ cs[2 * i + 1]? = some (.int .u8 (x.2 : Int)) := by
    intro i x hx
    have hi : i < n := by rw [← hl]; exact (List.getElem?_eq_some_iff.1 hx).1
    obtain ⟨fuel', d, q, hdd, hf⟩ := array_elem ht hd i hi
    rw [List.getElem?_map, hx] at hdd
    obtain rfl := Option.some.inj hdd
    rw [hce] at hf
    obtain ⟨xs, m, -, hxx, -, -, hall⟩ := DataW.trod_struct he hf
    have hxs : xs.map (·.1) = [.lit (.string x.1), .lit (.int .u8 (x.2 : Int))] := by
      have := congrArg Prod.fst hxx
      simpa using this.symm
    match xs, hxs with
    | [y0, y1], hxs =>
      simp only [List.map_cons, List.map_nil, List.cons.injEq, and_true] at hxs
      have a0 : _ = some y0 := hall 0 f0 h0
      have a1 : _ = some y1 := hall 1 f1 h1
      rw [o0, c0] at a0
      rw [o1, c1] at a1
      obtain ⟨s, hs, e0, -⟩ := DataW.trod_string u0 a0
      obtain ⟨k, hk, e1, -⟩ := DataW.trod_int u1 a1
      rw [e0, e1] at hxs
      simp only [DataW.lit.injEq, Lit.string.injEq, Lit.int.injEq, true_and] at hxs
      have b0 := congrArg (·[0]?) hs
      have b1 := congrArg (·[0]?) hk
      have es : (⟨x.1.toArray⟩ : ByteArray) = s := by rw [← hxs.1]
      refine ⟨?_, ?_⟩
      · rw [es]; simpa [List.getElem?_take, List.getElem?_drop, Nat.mul_comm] using b0
      · rw [← hxs.2]; simpa [List.getElem?_take, List.getElem?_drop, Nat.mul_comm] using b1
    | [], hxs => simp at hxs
    | [_], hxs => simp at hxs
    | _ :: _ :: _ :: _, hxs => simp at hxs
  intro j u hu
  show W.cell? ⟨g, 0 + j, none⟩ = some u
  rw [Nat.zero_add, hc j]
  have hf := flat_pair (fun x : List UInt8 × Nat => Value.string ⟨x.1.toArray⟩) (fun x => Value.int .u8 (x.2 : Int)) l (j / 2)
  rcases Nat.mod_two_eq_zero_or_one j with hj | hj
  · have ej : 2 * (j / 2) = j := by omega
    rw [ej, hu] at hf
    obtain ⟨x, hx, rfl⟩ := Option.map_eq_some_iff.1 hf.1.symm
    have := (key _ x hx).1
    rwa [ej] at this
  · have ej : 2 * (j / 2) + 1 = j := by omega
    rw [ej, hu] at hf
    obtain ⟨x, hx, rfl⟩ := Option.map_eq_some_iff.1 hf.2.symm
    have := (key _ x hx).2
    rwa [ej] at this
theorem tab_reads {W : World} {name : String} {k : IntKind} {zs : List Int} {g : Nat} {t e : TypeId} {n : Nat}
    (hg : Tryz.prog.globalNamed name = some g) (hty : (Tryz.prog.globals[g]?).map (·.type) = some t) (ht : Tryz.prog.underlying t = some (.array n e)) (he : Tryz.prog.underlying e = some (.int k)) (hce : Tryz.prog.cellsOf e = 1) (hct : Tryz.prog.cellsOf t = n)
    (h : VarReads Tryz.prog W name (tabData k zs)) : TabIs Tryz.prog W name k zs := by
  obtain ⟨g', t', cs, fuel, p, hg', ht', hvar, hd⟩ := h
  obtain rfl := Option.some.inj (hg.symm.trans hg')
  obtain rfl := Option.some.inj (hty.symm.trans ht')
  unfold TabIs
  rw [hvar, ← cells_of_tab ht he hce hct hd]
theorem iface_reads {W : World} {name nm : String} {d : DataW Unit} {g : Nat} (hg : Tryz.prog.globalNamed name = some g) (hty : (Tryz.prog.globals[g]?).map (·.type) = some 74)
    (h : VarReads Tryz.prog W name (.iface nm d)) : ∃ te pe, W.cell? ⟨g, 0, none⟩ = some (.iface te pe) := by
  obtain ⟨g', t', cs, fuel, p, hg', ht', hvar, hd⟩ := h
  obtain rfl := Option.some.inj (hg.symm.trans hg')
  obtain rfl := Option.some.inj (hty.symm.trans ht')
  have hc := World.var?_cell hg hvar 0
  cases fuel with
  | zero => simp [DataW.trod] at hd
  | succ fuel =>
    simp only [DataW.trod, Tryz.underlying74] at hd
    obtain ⟨l⟩ := cs
    match l, hd, hc with
    | [], hd, hc => simp at hd
    | [x], hd, hc =>
      cases x with
      | iface u v => exact ⟨u, v, by rw [hc]; rfl⟩
      | _ => simp at hd
    | x :: y :: r, hd, hc => simp at hd
set_option maxRecDepth 100000 in
theorem ga_of {W : World} {l : List (String × DataW Unit)} (hm : laidMet Tryz.prog l W) (hsh : W.ShapedOpen Tryz.prog)
    (h1 : ("internal/strconv.uint64pow10", Rows.laid_internal_strconv_uint64pow10) ∈ l) (h2 : ("strconv.ErrSyntax", Rows.laid_strconv_ErrSyntax) ∈ l) (h3 : ("strconv.ErrRange", Rows.laid_strconv_ErrRange) ∈ l) (h4 : ("math/bits.deBruijn64tab", Rows.laid_math_bits_deBruijn64tab) ∈ l)
    (h5 : ("unicode/utf8.acceptRanges", Rows.laid_unicode_utf8_acceptRanges) ∈ l) (h6 : ("potsherd/parse.words", Rows.laid_potsherd_parse_words) ∈ l) (h7 : ("potsherd/parse.aggregates", Rows.laid_potsherd_parse_aggregates) ∈ l) (h8 : ("unicode/utf8.first", Rows.laid_unicode_utf8_first) ∈ l) : GA W := by
  have r1 := laidMet.reads hm h1
  have r2 := laidMet.reads hm h2
  have r3 := laidMet.reads hm h3
  have r4 := laidMet.reads hm h4
  have r5 := laidMet.reads hm h5
  have r6 := laidMet.reads hm h6
  have r7 := laidMet.reads hm h7
  have r8 := laidMet.reads hm h8
  rw [pow_eq] at r1
  rw [bru_eq] at r4
  rw [accept_eq] at r5
  rw [words_eq] at r6
  rw [aggs_eq] at r7
  rw [show Rows.laid_unicode_utf8_first = Lib.firstData from Pinned.utf8First_eq] at r8
  have t1 := tab_reads (g := 7) (by kernel_rfl) (by kernel_rfl) Tryz.underlying181 Tryz.underlying131 (by kernel_rfl) (by kernel_rfl) r1
  have t4 := tab_reads (g := 9) (by kernel_rfl) (by kernel_rfl) Tryz.underlying190 Tryz.underlying5 (by kernel_rfl) (by kernel_rfl) r4
  have t6 := pairs_reads (l := wordsP) (g := 2) rfl (by kernel_rfl) (by kernel_rfl) Tryz.underlying127 Tryz.underlying126 (by kernel_rfl) rfl rfl Tryz.underlying9 (by kernel_rfl) rfl rfl (by kernel_rfl) (by kernel_rfl) r6
  have t7 := pairs_reads (l := aggsP) (g := 3) rfl (by kernel_rfl) (by kernel_rfl) Tryz.underlying130 Tryz.underlying129 (by kernel_rfl) rfl rfl Tryz.underlying9 (by kernel_rfl) rfl rfl (by kernel_rfl) (by kernel_rfl) r7
  have t8 := utf8Tabs_of_readsT (ρ := Tryz.laysValid_ren) (U8Types.of196 Tryz.laysValid) ⟨by kernel_rfl, by kernel_rfl, by kernel_rfl, by kernel_rfl, by kernel_rfl, by kernel_rfl, by kernel_rfl⟩ r8 r5
  have c9 := TabIs.cell (g := 9) t4 (by kernel_rfl) 15 (by decide)
  have hb := World.block_lt_of_cell? W _ c9
  exact ⟨⟨⟨t1, iface_reads (g := 5) (by kernel_rfl) (by kernel_rfl) r2, iface_reads (g := 6) (by kernel_rfl) (by kernel_rfl) r3⟩, c9⟩, ⟨⟨t6, t7⟩, t8, cell_of_shapedOpen_int hsh (t := 3) (zero := #[.int .i64 0]) (of_decide_eq_true (by kernel_rfl)) (by kernel_rfl) rfl (by kernel_rfl) (by kernel_rfl) (by kernel_rfl)⟩, by show 10 ≤ W.heap.size; exact hb⟩
end Go.Proofs.YthpcpaggbhgcoaaGreatDoor
/-
  The law ParseOnce answers true for every text: what is read of a text is right, and is read again of the text that is printed of it, or that lies too deep or is too long; of a text that is none the empty query is told, and a place within the text.
  Condition: the listed tables of utf8, strconv, math/bits and parse hold what the program text lays (the card ties that).
-/
namespace Go.Proofs.YthpcpaggbhgcoaaGreatDoor
open Go.ChangeShapes Go.WideShapes Go.ChangeAt Go.RowKit Go.Joins
open Go.ChangeMaps (open_string shut_string)

/-- The wrap that keeps both the world's shape and what the listed variables hold. -/
theorem handed_laid_shaped {H : Type} {enc : TypeId × Value → H} {a : Assume} {C : Checked} {os : Os} {f : FuncId} {fn : Func} {s : ChangeSpec} {conds : List PathCond} {apart fresh handsOn again : Bool} {X : World → Array Value → Prop}
    (hX : ∀ (w w' : World) (args : Array Value), w.heap = w'.heap → X w args → X w' args)
    (own : ownKnob C.prog.godebug = none) (started : os.Started) (noInit : C.prog.inits.idxOf? f = none) (hfn : C.prog.funcs[f]? = some fn)
    (witness : ∃ (w : World) (tape : Tape) (i : Input), w.os = os ∧ (w.forCall tape i).Shaped C.prog ∧ i.vars = [] ∧ Input.okWide C.prog (w.forCall tape i) .any w.heap.size f i ∧
      ((s.pre enc C.prog fn conds apart (w.forCall tape i).memory i.args ∧ X (w.forCall tape i).memory i.args) ∧ sizedMet enc C.prog fn (OpenSpec.ofChange s) apart (w.forCall tape i).memory i.args) ∧ a.holds C.prog (lone (Frame.enter C.prog f i.args .normal) [] (w.forCall tape i)))
    (contract : ∀ (W : World) (base : Nat) (args : Array Value) (ds gs : List (DataW H)) (before : List MemPlace),
      (∀ (j : Nat) t v, fn.params[j]? = some t → args[j]? = some v → Value.okWide C.prog W .any base t v) →
      DataW.Whole enc C.prog fn.params.toList s.vars apart W args.toList ds gs before →
      (DataW.weightsEach C.prog (fn.params.toList ++ s.plain.varTypes C.prog) (ds ++ gs)).all (· ≤ reachBytes) = true → X W args → W.ShapedOpen C.prog →
      Calls C.prog f args W fun e W' => ∃ v, e = .returned v ∧ s.post enc C.prog fn apart fresh handsOn again W args v W') :
    ReturnsInHanded a C os f .any (fun w args => (s.pre enc C.prog fn conds apart w args ∧ X w args) ∧ sizedMet enc C.prog fn (OpenSpec.ofChange s) apart w args) (s.post enc C.prog fn apart fresh handsOn again) := by
  refine returnsInHanded_of_calls own started noInit witness ?_
  intro w tape i _ hsh _ hok hpre hholds
  obtain ⟨_, _, _, fn', hfn', _, _, _, _, hval⟩ := hok
  have e : fn' = fn := Option.some.inj (hfn'.symm.trans hfn)
  subst e
  obtain ⟨⟨⟨ds, gs, before, hw, hc⟩, hx⟩, hz⟩ := hpre
  have hw' := DataW.Whole.of_heap (w' := w.forCall tape i) (by rfl) hw
  refine (contract (w.forCall tape i) w.heap.size i.args ds gs before hval hw' (hz.weights hw) (hX _ _ _ (by rfl) hx) hsh).mono fun e W' ⟨v, he, hp⟩ => ?_
  subst he
  exact ChangeSpec.post_blind hp

set_option maxRecDepth 100000 in
theorem once_lifted (os : Os) (started : os.Started) (H : Type) (enc : TypeId × Value → H) :
    ReturnsInHanded {} Tryz.checked os 3 .any (fun w args => (Rows.parseOnceSpec.pre enc Tryz.prog Tryz.f3 Rows.parseOnceRow.domain false w args ∧ laidMetH Tryz.prog Rows.parseOnceRow.laid w) ∧ sizedMet enc Tryz.prog Tryz.f3 (OpenSpec.ofChange Rows.parseOnceSpec) false w args)
      (Rows.parseOnceSpec.post enc Tryz.prog Tryz.f3 false true false false) := by
  refine handed_laid_shaped (C := Tryz.checked) (X := fun w _ => laidMetH Tryz.prog Rows.parseOnceRow.laid w) (fun _ _ _ hh h => h.of_heap hh) own started (by kernel_rfl) Tryz.func3
    (ChangeSpec.witness_shaped (enc := enc) (C := Tryz.checked) (os := os) (X := fun w _ => laidMetH Tryz.prog Rows.parseOnceRow.laid w) false (World.laidAll Tryz.prog os Rows.parseOnceRow.laid) #[.string ⟨#[]⟩] 8 (World.laidAll_os _ _ _)
      (World.shaped_of_ZipB (by kernel_rfl) (by kernel_rfl)) (by kernel_rfl) (by kernel_rfl) (by kernel_rfl)
      (by rw [MakeChecks.laidMetH_plain _ _ _ (by kernel_rfl)]; exact laidMet_laidAll _ (by kernel_rfl) (by kernel_rfl))) ?_
  intro W base args ds gs before hval0 hW hsz hL hsh
  have hval : ∀ (j : Nat) t v, Tryz.f3.params[j]? = some t → args[j]? = some v → Value.okWide Tryz.prog W .any base t v := hval0
  have hW' := hW
  obtain ⟨p, q, hA0, hV, rfl, _, _⟩ := hW
  have hA : DataW.TrodAll enc Tryz.prog W 0 (fun _ => true) true Tryz.f3.params.toList args.toList ds p := hA0
  rw [Tryz.params3] at hA hval
  obtain ⟨v0, d0, rfl, rfl, h0⟩ := trodAll_one hA
  obtain ⟨rfl, rfl⟩ := trodVars_none hV
  obtain ⟨s, rfl, rfl, rfl, ws⟩ := open_string Tryz.underlying9 (hval 0 9 v0 rfl rfl) h0
  clear hA0 hval0
  simp only [List.append_nil] at hW'
  have hla := sized_string hsz (j := 0) (t := 9) rfl rfl
  have hlb : s.size ≤ 9223372036854775807 := by rw [Lib.size_eq]; exact Nat.le_trans hla (by decide)
  have core := once_walk s W hlb (ga_of (l := Rows.parseOnceRow.laid) (by have h := hL; rw [MakeChecks.laidMetH_plain _ _ _ (by kernel_rfl)] at h; exact h) hsh (.tail _ (.tail _ (.head _))) (.tail _ (.tail _ (.tail _ (.tail _ (.tail _ (.head _)))))) (.tail _ (.tail _ (.tail _ (.tail _ (.head _))))) (.tail _ (.head _))
    (.tail _ (.tail _ (.tail _ (.head _)))) (.tail _ (.tail _ (.tail _ (.tail _ (.tail _ (.tail _ (.head _))))))) (.tail _ (.tail _ (.tail _ (.tail _ (.tail _ (.tail _ (.tail _ (.head _)))))))) (.tail _ (.tail _ (.tail _ (.tail _ (.tail _ (.tail _ (.tail _ (.tail _ (.head _))))))))))
  refine core.mono ?_
  rintro e W' ⟨rfl, bel⟩
  refine ⟨_, rfl, _, _, _, [], [], [], hW', ?_, ?_, ?_, bel.frame _, fun h => by cases h⟩
  · exact trodAll_mk1 (shut_bool Tryz.underlying4 _)
  · exact trodAll_mk1 (shut_string Tryz.underlying9 ws)
  · rfl

theorem once_holds : Rows.ParseOnceSaid :=
  OpenClaim.holds_of_wide 3 Tryz.f3 rfl rfl rfl rfl rfl rfl rfl ⟨rfl, rfl, rfl, rfl, rfl⟩ rfl rfl rfl rfl rfl (by kernel_rfl) Tryz.func3 (by kernel_rfl)
    (of_decide_eq_true (by kernel_rfl)) (by unfold Func.isWrapper; first | (rw [if_pos (by decide +kernel)]; kernel_rfl) | (rw [if_neg (by decide +kernel)]; exact ⟨rfl, rfl⟩))
    (fun os started H enc _ => once_lifted os started H enc)
theorem once_card : Rows.ParseOnceCardSaid :=
  Claim7.holds_tied_plain_at .later [] _ _ _ _ once_holds (fun _ h => by cases h) (by kernel_rfl) (fun _ h => by cases h) parseOnce_row_tie rfl ⟨rfl, rfl⟩ (by kernel_rfl) rfl
    (fun f fn hf hfn => by
      obtain rfl : f = 3 := Option.some.inj ((show Tryz.prog.funcNamed "potsherd/potsherdlaw03.ParseOnce" = some 3 by kernel_rfl).symm.trans hf) |>.symm
      obtain rfl : fn = Tryz.f3 := (Option.some.inj (Tryz.func3.symm.trans hfn)).symm
      exact ⟨by kernel_rfl, fun j t ht => by
        rw [Tryz.params3] at ht
        have hm : t ∈ [9] := by simpa using Array.mem_of_getElem? ht
        have hall : ([9].all fun u => !Tryz.prog.wantsStandIn u) = true := by kernel_rfl
        exact (show Tryz.prog.wantsStandIn t = false by simpa using List.all_eq_true.1 hall t hm)⟩)
    (by kernel_rfl)
#print axioms once_card
end Go.Proofs.YthpcpaggbhgcoaaGreatDoor
