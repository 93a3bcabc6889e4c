/- Items, clauses, a whole query: what is written is read as it was, or lies too deep. No walk stands in this text. -/
import Derived.Test.YtnmmojhbcnlboaaGreatDoorSaSbScSd
namespace Go.Proofs.YtnmmojhbcnlboaaGreatDoor
open Go.RowKit Go.Lib
set_option linter.unusedVariables false
set_option linter.unusedSimpArgs false
/-- These tokens are read as this, wherever they stand. -/
def El {α : Type} (read : Int → PS → Res α) (P : Tok → Bool) (ks : List Tok) (x : α) : Prop :=
  (∃ k r, ks = k :: r ∧ ∀ a, P { k with a := a } = true) ∧ ∀ (en : Int) (ts rest : List Tok) (op : Int), ts.map zeroA = ks → Deep (read en ⟨ts ++ rest, op⟩) x ⟨rest, op⟩
def Els {α : Type} (read : Int → PS → Res α) (P : Tok → Bool) : List Tok → List α → Prop
  | us, [] => us = []
  | us, x :: xs => ∃ k1 u1, us = k1 ++ u1 ∧ El read P k1 x ∧ Els read P u1 xs
theorem Els.nil {α : Type} {read : Int → PS → Res α} {P : Tok → Bool} : Els read P [] [] := rfl
theorem Els.cons {α : Type} {read : Int → PS → Res α} {P : Tok → Bool} {ks us : List Tok} {x : α} {xs : List α} (h : El read P ks x) (hl : Els read P us xs) : Els read P (ks ++ us) (x :: xs) := ⟨ks, us, rfl, h, hl⟩
theorem some_ok {α : Type} {read : Int → PS → Res α} {P : Tok → Bool} (en : Int) (cl : Tok) (hc : P cl = false) (rest : List Tok) (op : Int) : ∀ {us : List Tok} {xs : List α}, Els read P us xs → ∀ (f : Nat) (l : List α) (ts : List Tok), ts.map zeroA = us → xs.length ≤ f → l.length + xs.length ≤ 8 → Deep (someR en (read en) P f l ⟨ts ++ cl :: rest, op⟩) (l ++ xs) ⟨cl :: rest, op⟩
  | us, [], he, f, l, ts, hts, hf, hle => by
    obtain rfl : us = [] := he
    obtain rfl : ts = [] := by simpa using hts
    left
    cases f with
    | zero => simp [someR]
    | succ f => simp [someR, comesP, hc]
  | us0, x :: xs, ⟨ks, us, e0, h, hl⟩, f, l, ts, hts, hf, hle => by
    subst e0
    obtain ⟨t1, t2, rfl, h1, h2⟩ := List.map_eq_append_iff.1 hts
    simp only [List.length_cons] at hf hle
    obtain ⟨f, rfl⟩ : ∃ g, f = g + 1 := ⟨f - 1, by omega⟩
    obtain ⟨⟨k, r, rfl, hP⟩, hr⟩ := h
    have hcm : comesP P (⟨t1 ++ t2 ++ cl :: rest, op⟩ : PS) = true := by
      obtain ⟨t, r', rfl, ht, -⟩ := List.map_eq_cons_iff.1 h1
      have := zeroA_k ht
      show P t = true
      rw [this]
      exact hP _
    have a := hr en t1 (t2 ++ cl :: rest) op h1
    have b := some_ok en cl hc rest op hl f (l ++ [x]) t2 h2 (by omega) (by simp only [List.length_append, List.length_cons, List.length_nil]; omega)
    rw [show someR en (read en) P (f + 1) l ⟨t1 ++ t2 ++ cl :: rest, op⟩ = if comesP P (⟨t1 ++ t2 ++ cl :: rest, op⟩ : PS) then (if l.length = 8 then .inl (3, placeP en ⟨t1 ++ t2 ++ cl :: rest, op⟩) else andR (read en ⟨t1 ++ t2 ++ cl :: rest, op⟩) fun x s => someR en (read en) P f (l ++ [x]) s) else .inr (l, ⟨t1 ++ t2 ++ cl :: rest, op⟩) from rfl]
    rw [if_pos hcm, if_neg (by omega), List.append_assoc]
    rw [List.append_assoc] at b
    exact a.and b
theorem many_ok {α : Type} {read : Int → PS → Res α} {P : Tok → Bool} (en : Int) (cl : Tok) (hc : P cl = false) (rest : List Tok) (op : Int) {us : List Tok} {xs : List α} (h : Els read P us xs) (hne : xs ≠ []) (h8 : xs.length ≤ 8) (ts : List Tok) (hts : ts.map zeroA = us) : Deep (manyR en (read en) P ⟨ts ++ cl :: rest, op⟩) xs ⟨cl :: rest, op⟩ := by
  cases xs with
  | nil => exact absurd rfl hne
  | cons x xs =>
    obtain ⟨k1, u1, rfl, h, hl⟩ := h
    obtain ⟨t1, t2, rfl, h1, h2⟩ := List.map_eq_append_iff.1 hts
    simp only [List.length_cons] at h8
    unfold manyR
    rw [List.append_assoc]
    refine (h.2 en t1 (t2 ++ cl :: rest) op h1).and ?_
    exact some_ok en cl hc rest op hl 8 [_] t2 h2 (by omega) (by simp only [List.length_cons, List.length_nil]; omega)
theorem els_of {α β : Type} {read : Int → PS → Res α} {P : Tok → Bool} (g : α → List UInt8) : ∀ (xs : List α), (∀ x ∈ xs, ∃ ks, Txt (g x) ks ∧ El read P ks x) → ∃ us, Txts (xs.map g) us ∧ Els read P us xs
  | [], _ => ⟨[], .nil, .nil⟩
  | x :: xs, h => by
    obtain ⟨ks, h1, h2⟩ := h x (by simp)
    obtain ⟨us, h3, h4⟩ := els_of (β := β) g xs fun y hy => h y (by simp [hy])
    exact ⟨ks ++ us, .cons h1 h3, .cons h2 h4⟩
theorem one_tok {ts : List Tok} {k : Tok} (h : ts.map zeroA = [k]) : ∃ a, ts = [{ k with a := a }] := by
  obtain ⟨t, r, rfl, h1, h2⟩ := List.map_eq_cons_iff.1 h
  obtain rfl : r = [] := by simpa using h2
  exact ⟨t.a, by rw [← zeroA_k h1]⟩
theorem col_el {l : List UInt8} (h : isColP l = true) : El colR colP [⟨3, l, 0, 0⟩] l := by
  refine ⟨⟨_, _, rfl, fun a => by unfold colP; rw [h]; rfl⟩, fun en ts rest op hts => ?_⟩
  obtain ⟨a, rfl⟩ := one_tok hts
  left
  unfold colR
  rw [List.singleton_append, take_at en colP _ rest op (by simp) (by unfold colP; rw [h]; rfl)]
  rfl
theorem expr_el {l : List Stp} (h : rightP l = true) (hf : ∀ x ∈ l, Fit x) : ∃ ks, Txt (exprP l) ks ∧ HeadOk ks l ∧ l.length ≤ 64 ∧ El exprR (fun t => lefP t || opnP t) ks l := by
  obtain ⟨ks, ⟨h1, h2, h3⟩, h64⟩ := expr_ent h hf
  refine ⟨ks, h1, h3, h64, ?_, fun en ts rest op hts => ?_⟩
  · obtain ⟨k, r, rfl, e, -⟩ := h2.1
    exact ⟨k, r, rfl, fun a => e⟩
  · have := h2.2 en ((ts ++ rest).length + 1) [] ts rest op hts (by omega) (by simpa using h64)
    exact this
theorem aggText_ok : ∀ g : Nat, g < 5 → 1 ≤ g → isOpWord (aggTextP g) = true ∧ aggOfP (aggTextP g) = g ∧ stepOfP (aggTextP g) = 0 := by
  intro k hk h7
  have h : ∀ j : Fin 5, 1 ≤ j.1 → isOpWord (aggTextP j.1) = true ∧ aggOfP (aggTextP j.1) = j.1 ∧ stepOfP (aggTextP j.1) = 0 := by decide +kernel
  exact h ⟨k, hk⟩ h7
/-- An item. -/
theorem item_el {x : Itm} (h : itemOkP x = true) (hf : ∀ y ∈ x.e, Fit y) : ∃ ks, Txt (writeItemP x) ks ∧ El itemR (fun t => lefP t || opnP t) ks x := by
  obtain ⟨g, e⟩ := x
  unfold itemOkP at h
  simp only at h hf
  by_cases g0 : g = 0
  · subst g0
    rw [if_neg (by omega)] at h
    simp only [Bool.and_eq_true, decide_eq_true_eq] at h
    obtain ⟨ks, h1, h2, h64, h3⟩ := expr_el h.2 hf
    refine ⟨ks, by unfold writeItemP; rw [if_pos rfl]; exact h1, h3.1, fun en ts rest op hts => ?_⟩
    rcases h2 with ⟨k, r, rfl, hk⟩ | ⟨k, wd, us, ms, h7, h21, hw, hc, hp, rfl, rfl⟩
    · unfold itemR
      have hcm : comesP opnP (⟨ts ++ rest, op⟩ : PS) = false := by
        obtain ⟨t, r', rfl, ht, -⟩ := List.map_eq_cons_iff.1 hts
        have := zeroA_k ht
        show opnP t = false
        rw [this]
        simpa [opnP] using hk
      rw [if_pos hcm]
      exact (h3.2 en ts rest op hts).and (.inl rfl)
    · obtain ⟨t1, r, rfl, q1, hr⟩ := List.map_eq_cons_iff.1 hts
      obtain ⟨r1, r2, rfl, hr1, hr2⟩ := List.map_eq_append_iff.1 hr
      obtain ⟨r3, r4, rfl, hr3, hr4⟩ := List.map_eq_append_iff.1 hr1
      obtain ⟨aw, rfl⟩ := one_tok hr3
      obtain ⟨ac, rfl⟩ := one_tok hr2
      have k1 : t1.k = 1 := by rw [zeroA_k q1]
      have eL : t1 :: ([({ k := 3, t := wd, n := 0, a := aw } : Tok)] ++ r4 ++ [({ k := 2, t := [], n := 0, a := ac } : Tok)]) ++ rest = t1 :: (⟨3, wd, 0, aw⟩ :: (r4 ++ ⟨2, [], 0, ac⟩ :: rest)) := by simp
      rw [show (t1 :: ([({ ({ k := 3, t := wd, n := 0, a := 0 } : Tok) with a := aw })] ++ r4 ++ [({ ({ k := 2, t := [], n := 0, a := 0 } : Tok) with a := ac })]) ++ rest) = t1 :: (⟨3, wd, 0, aw⟩ :: (r4 ++ ⟨2, [], 0, ac⟩ :: rest)) from eL]
      have hop : oprP ⟨3, wd, 0, aw⟩ = true := by unfold oprP; rw [hc, hw]; simp; omega
      unfold itemR
      rw [if_neg (by simp [comesP, opnP, k1])]
      refine (take_open en opnP t1 _ op k1 (by simp [opnP, k1])).and ?_
      rw [take_at en _ ⟨3, wd, 0, aw⟩ _ (op + 1) (by simp) (by rw [hop]; rfl)]
      simp only [andR]
      rw [if_neg (by omega)]
      unfold item2
      rw [if_pos hop]
      have := oper_ok h7 h21 hp en ((r4 ++ (⟨2, [], 0, ac⟩ : Tok) :: rest).length + 1) [] ⟨3, wd, 0, aw⟩ r4 ⟨2, [], 0, ac⟩ rest (op + 1) hw hr4 rfl (by omega) (by simp only [List.length_append, List.length_cons, List.length_nil] at h64 ⊢; omega)
      rw [show op + 1 - 1 = op by omega] at this
      exact Deep.and this (.inl rfl)
  · have hag : 1 ≤ g ∧ g < 5 ∧ (g = 1 → e = []) ∧ (g ≠ 1 → rightP e = true) := by
      split at h
      · rename_i g1
        subst g1
        exact ⟨by omega, by omega, fun _ => by simpa using h, fun h' => absurd rfl h'⟩
      · rename_i g1
        simp only [Bool.and_eq_true, decide_eq_true_eq] at h
        exact ⟨by omega, h.1, fun e => absurd e g1, fun _ => h.2⟩
    obtain ⟨g1, g5, he, hr⟩ := hag
    obtain ⟨c1, c2, c3⟩ := aggText_ok g g5 g1
    obtain ⟨ks, parts, htx, hto, hrd⟩ : ∃ ks parts, writeItemP ⟨g, e⟩ = bracketsP (aggTextP g) parts ∧ Txts parts ks ∧ ∀ (en : Int) (ts rest : List Tok) (op : Int), ts.map zeroA = ks → Deep (if g = 1 then .inr (([] : List Stp), ⟨ts ++ rest, op⟩) else exprR en ⟨ts ++ rest, op⟩) e ⟨rest, op⟩ := by
      by_cases gg : g = 1
      · subst gg
        refine ⟨[], [], rfl, .nil, fun en ts rest op hts => ?_⟩
        obtain rfl : ts = [] := by simpa using hts
        rw [if_pos rfl, he rfl]
        exact .inl rfl
      · obtain ⟨ks, h1, -, -, h3⟩ := expr_el (hr gg) hf
        refine ⟨ks, [exprP e], by unfold writeItemP; rw [if_neg g0, if_neg gg], by have := Txts.cons h1 .nil; simpa using this, fun en ts rest op hts => ?_⟩
        rw [if_neg gg]
        exact h3.2 en ts rest op hts
    refine ⟨_, by rw [htx]; exact txt_brackets (txt_op c1) hto, ⟨_, _, rfl, fun a => rfl⟩, fun en ts rest op hts => ?_⟩
    obtain ⟨t1, r, rfl, q1, hr'⟩ := List.map_eq_cons_iff.1 hts
    obtain ⟨r1, r2, rfl, hr1, hr2⟩ := List.map_eq_append_iff.1 hr'
    obtain ⟨r3, r4, rfl, hr3, hr4⟩ := List.map_eq_append_iff.1 hr1
    obtain ⟨aw, rfl⟩ := one_tok hr3
    obtain ⟨ac, rfl⟩ := one_tok hr2
    have k1 : t1.k = 1 := by rw [zeroA_k q1]
    have eL : t1 :: ([({ k := 3, t := aggTextP g, n := 0, a := aw } : Tok)] ++ r4 ++ [({ k := 2, t := [], n := 0, a := ac } : Tok)]) ++ rest = t1 :: (⟨3, aggTextP g, 0, aw⟩ :: (r4 ++ ⟨2, [], 0, ac⟩ :: rest)) := by simp
    rw [show (t1 :: ([({ ({ k := 3, t := aggTextP g, n := 0, a := 0 } : Tok) with a := aw })] ++ r4 ++ [({ ({ k := 2, t := [], n := 0, a := 0 } : Tok) with a := ac })]) ++ rest) = t1 :: (⟨3, aggTextP g, 0, aw⟩ :: (r4 ++ ⟨2, [], 0, ac⟩ :: rest)) from eL]
    have hop : oprP ⟨3, aggTextP g, 0, aw⟩ = false := by unfold oprP; rw [c3]; simp
    have hag : aggP ⟨3, aggTextP g, 0, aw⟩ = true := by unfold aggP; rw [c2]; simp; omega
    unfold itemR
    rw [if_neg (by simp [comesP, opnP, k1])]
    refine (take_open en opnP t1 _ op k1 (by simp [opnP, k1])).and ?_
    rw [take_at en _ ⟨3, aggTextP g, 0, aw⟩ _ (op + 1) (by simp) (by rw [hop, hag]; rfl)]
    simp only [andR]
    rw [if_neg (by omega)]
    unfold item2
    rw [if_neg (by rw [hop]; simp)]
    simp only [c2]
    refine Deep.and (hrd en r4 (⟨2, [], 0, ac⟩ :: rest) (op + 1) hr4) ?_
    rw [take_at en clsP ⟨2, [], 0, ac⟩ rest (op + 1) (by simp) rfl]
    simp only [andR]
    rw [if_pos trivial, show op + 1 - 1 = op by omega]
    exact .inl rfl
end Go.Proofs.YtnmmojhbcnlboaaGreatDoor
/- A query that is written is read as it was, or lies too deep, or is too long. No walk stands in this text. -/
namespace Go.Proofs.YtnmmojhbcnlboaaGreatDoor
open Go.RowKit Go.Lib
set_option linter.unusedVariables false
set_option linter.unusedSimpArgs false
/-- These clauses, from the n-th on, make this query of that. -/
def ClsOk (n : Nat) (q : Qry) (l : List (List UInt8)) (q' : Qry) : Prop :=
  ∃ ks, Txts l ks ∧ ∀ (en : Int) (f n0 : Nat) (ts : List Tok) (cl : Tok) (rest : List Tok) (op : Int), n0 ≤ n → 4 ≤ f + n → ts.map zeroA = ks → cl.k = 2 → Deep (clausesR en f n0 q ⟨ts ++ cl :: rest, op⟩) q' ⟨cl :: rest, op⟩
theorem cls_nil (n : Nat) (q : Qry) : ClsOk n q [] q := by
  refine ⟨[], .nil, fun en f n0 ts cl rest op h1 h2 hts hc => ?_⟩
  obtain rfl : ts = [] := by simpa using hts
  left
  exact clausesR_stop (by simp [comesP, clsP, hc])
theorem cls_skip {n : Nat} {q q' : Qry} {l : List (List UInt8)} (h : ClsOk (n + 1) q l q') : ClsOk n q l q' := by
  obtain ⟨ks, h1, h2⟩ := h
  exact ⟨ks, h1, fun en f n0 ts cl rest op a b c d => h2 en f n0 ts cl rest op (by omega) (by omega) c d⟩
theorem wordP_ok : ∀ n : Nat, n < 4 → isOpWord (wordP n) = true ∧ idxP (wordP n) = n ∧ ∀ m, m ≤ n → (clausesP.drop m).any (fun x => decide (x = wordP n)) = true := by
  intro n hn
  have h : ∀ j : Fin 4, isOpWord (wordP j.1) = true ∧ idxP (wordP j.1) = j.1 ∧ ∀ m : Fin 4, m.1 ≤ j.1 → (clausesP.drop m.1).any (fun x => decide (x = wordP j.1)) = true := by decide +kernel
  obtain ⟨a, b, c⟩ := h ⟨n, hn⟩
  exact ⟨a, b, fun m hm => c ⟨m, by omega⟩ hm⟩
theorem cls_cons {n : Nat} (hn : n < 4) {q q1 q' : Qry} {parts l : List (List UInt8)} {us : List Tok} (ht : Txts parts us)
    (hr : ∀ (en : Int) (ts : List Tok) (cl : Tok) (rest : List Tok) (op : Int), ts.map zeroA = us → cl.k = 2 → Deep (clauseR en n q ⟨ts ++ cl :: rest, op⟩) q1 ⟨cl :: rest, op⟩) (h : ClsOk (n + 1) q1 l q') : ClsOk n q (bracketsP (wordP n) parts :: l) q' := by
  obtain ⟨ks, h1, h2⟩ := h
  obtain ⟨w1, w2, w3⟩ := wordP_ok n hn
  refine ⟨_, .cons (txt_brackets (txt_op w1) ht) h1, fun en f n0 ts cl rest op h0 h4 hts hc => ?_⟩
  obtain ⟨f, rfl⟩ : ∃ g, f = g + 1 := ⟨f - 1, by omega⟩
  obtain ⟨ta, tb, rfl, ha, hb⟩ := List.map_eq_append_iff.1 hts
  obtain ⟨t1, r, rfl, q1', hr'⟩ := List.map_eq_cons_iff.1 ha
  obtain ⟨r1, r2, rfl, hr1, hr2⟩ := List.map_eq_append_iff.1 hr'
  obtain ⟨r3, r4, rfl, hr3, hr4⟩ := List.map_eq_append_iff.1 hr1
  obtain ⟨aw, rfl⟩ := one_tok hr3
  obtain ⟨ac, rfl⟩ := one_tok hr2
  have k1 : t1.k = 1 := by rw [zeroA_k q1']
  have eL : t1 :: ([({ k := 3, t := wordP n, n := 0, a := aw } : Tok)] ++ r4 ++ [({ k := 2, t := [], n := 0, a := ac } : Tok)]) ++ tb ++ cl :: rest = t1 :: (⟨3, wordP n, 0, aw⟩ :: (r4 ++ ⟨2, [], 0, ac⟩ :: (tb ++ cl :: rest))) := by simp
  rw [show (t1 :: ([({ ({ k := 3, t := wordP n, n := 0, a := 0 } : Tok) with a := aw })] ++ r4 ++ [({ ({ k := 2, t := [], n := 0, a := 0 } : Tok) with a := ac })]) ++ tb ++ cl :: rest) = t1 :: (⟨3, wordP n, 0, aw⟩ :: (r4 ++ ⟨2, [], 0, ac⟩ :: (tb ++ cl :: rest))) from eL]
  unfold clausesR
  rw [if_pos ⟨by omega, by simp [comesP, clsP, k1]⟩]
  refine (take_open en opnP t1 _ op k1 (by simp [opnP, k1])).and ?_
  have hat : atomP (clausesP.drop n0) ⟨3, wordP n, 0, aw⟩ = true := by unfold atomP; rw [w3 n0 h0]; rfl
  unfold clauseM
  rw [take_at en _ ⟨3, wordP n, 0, aw⟩ _ (op + 1) (by simp) hat]
  simp only [andR]
  rw [if_neg (by omega), w2]
  refine Deep.and (x := (q1, n + 1)) (s := ⟨(⟨2, [], 0, ac⟩ : Tok) :: (tb ++ cl :: rest), op + 1⟩) ((hr en r4 ⟨2, [], 0, ac⟩ (tb ++ cl :: rest) (op + 1) hr4 rfl).and (.inl rfl)) ?_
  rw [take_at en clsP ⟨2, [], 0, ac⟩ _ (op + 1) (by simp) rfl]
  simp only [andR]
  rw [if_pos trivial, show op + 1 - 1 = op by omega]
  exact h2 en f (n + 1) tb cl rest op (Nat.le_refl _) (by omega) hb hc
/-- What a query that was read is: its columns have at most 64 bytes, its numbers 64 bits. -/
structure FitQ (q : Qry) : Prop where
  w : ∀ x ∈ q.w, Fit x
  i : ∀ x ∈ q.i, ∀ y ∈ x.e, Fit y
  a : q.a.length ≤ 64
  b : q.b.length ≤ 64
  g : ∀ x ∈ q.g, x.length ≤ 64
theorem clauses_ok {q : Qry} (h : queryOkP q = true) (hf : FitQ q) : ClsOk 0 ⟨[], q.t, [], [], [], [], []⟩ (joinL q ++ whereL q ++ groupL q ++ getL q) q := by
  obtain ⟨i, t, j, a, b, w, g⟩ := q
  unfold queryOkP at h
  simp only [Bool.and_eq_true] at h
  obtain ⟨hn, hj, hw, hi, hg⟩ := h
  obtain ⟨fw, fi, fa, fb, fg⟩ := hf
  simp only at fw fi fa fb fg hn hw hi
  unfold itemsOkP at hi
  split at hi
  · cases hi
  rename_i hi8
  rw [List.all_eq_true] at hi
  unfold groupOkP at hg
  simp only at hg
  split at hg
  · cases hg
  rename_i hg8
  split at hg
  · cases hg
  rename_i hgc
  have hgc' : ∀ x ∈ g, isColP x = true := by
    have : g.all isColP = true := by simpa using hgc
    rwa [List.all_eq_true] at this
  have c4 : ClsOk 3 ⟨[], t, j, a, b, w, g⟩ (getL ⟨i, t, j, a, b, w, g⟩) ⟨i, t, j, a, b, w, g⟩ := by
    unfold getL
    simp only
    by_cases hi0 : i = []
    · rw [if_pos hi0, hi0]
      exact cls_nil 3 _
    · rw [if_neg hi0]
      obtain ⟨us, u1, u2⟩ := els_of (β := Unit) (read := itemR) (P := fun t => lefP t || opnP t) writeItemP i fun x hx => item_el (hi x hx) (fi x hx)
      refine cls_cons (by omega) u1 (fun en ts cl rest op hts hc => ?_) (cls_nil 4 _)
      unfold clauseR
      exact (many_ok en cl (by simp [opnP, lefP, leafP, colP, hc]) rest op u2 hi0 (by omega) ts hts).and (.inl rfl)
  have c3 : ClsOk 2 ⟨[], t, j, a, b, w, []⟩ (groupL ⟨i, t, j, a, b, w, g⟩ ++ getL ⟨i, t, j, a, b, w, g⟩) ⟨i, t, j, a, b, w, g⟩ := by
    unfold groupL
    simp only
    by_cases hg0 : g = []
    · rw [if_pos hg0]
      subst hg0
      exact cls_skip c4
    · rw [if_neg hg0]
      obtain ⟨us, u1, u2⟩ := els_of (β := Unit) (read := colR) (P := colP) id g fun x hx => ⟨_, txt_col (hgc' x hx) (fg x hx), col_el (hgc' x hx)⟩
      rw [List.map_id] at u1
      refine cls_cons (by omega) u1 (fun en ts cl rest op hts hc => ?_) c4
      unfold clauseR
      exact (many_ok en cl (by simp [colP, hc]) rest op u2 hg0 (by omega) ts hts).and (.inl rfl)
  have c2 : ClsOk 1 ⟨[], t, j, a, b, [], []⟩ (whereL ⟨i, t, j, a, b, w, g⟩ ++ (groupL ⟨i, t, j, a, b, w, g⟩ ++ getL ⟨i, t, j, a, b, w, g⟩)) ⟨i, t, j, a, b, w, g⟩ := by
    unfold whereL
    simp only
    by_cases hw0 : w = []
    · rw [if_pos hw0]
      subst hw0
      exact cls_skip c3
    · rw [if_neg hw0]
      unfold whereOkP at hw
      have hwr : rightP w = true := by simpa [hw0] using hw
      obtain ⟨ks, h1, -, -, h3⟩ := expr_el hwr fw
      have h1' : Txts [exprP w] ks := by have := Txts.cons h1 .nil; simpa using this
      refine cls_cons (by omega) h1' (fun en ts cl rest op hts hc => ?_) c3
      unfold clauseR
      exact (h3.2 en ts (cl :: rest) op hts).and (.inl rfl)
  have c1 : ClsOk 0 ⟨[], t, [], [], [], [], []⟩ (joinL ⟨i, t, j, a, b, w, g⟩ ++ (whereL ⟨i, t, j, a, b, w, g⟩ ++ (groupL ⟨i, t, j, a, b, w, g⟩ ++ getL ⟨i, t, j, a, b, w, g⟩))) ⟨i, t, j, a, b, w, g⟩ := by
    unfold joinL
    simp only
    unfold joinOkP at hj
    simp only at hj
    by_cases hj0 : j = []
    · rw [if_pos hj0] at hj
      rw [if_pos hj0]
      simp only [Bool.and_eq_true, decide_eq_true_eq] at hj
      obtain ⟨rfl, rfl⟩ := hj
      subst hj0
      exact cls_skip c2
    · rw [if_neg hj0] at hj
      rw [if_neg hj0]
      simp only [Bool.and_eq_true, decide_eq_true_eq] at hj
      obtain ⟨j1, -, j2, j3⟩ := hj
      have ht : Txts [j, a, b] [⟨3, j, 0, 0⟩, ⟨3, a, 0, 0⟩, ⟨3, b, 0, 0⟩] := .cons (txt_name j1) (.cons (txt_col j2 fa) (.cons (txt_col j3 fb) .nil))
      refine cls_cons (by omega) ht (fun en ts cl rest op hts hc => ?_) c2
      obtain ⟨t1, r1, rfl, e1, hr⟩ := List.map_eq_cons_iff.1 hts
      obtain ⟨t2, r2, rfl, e2, hr2⟩ := List.map_eq_cons_iff.1 hr
      obtain ⟨t3, r3, rfl, e3, hr3⟩ := List.map_eq_cons_iff.1 hr2
      obtain rfl : r3 = [] := by simpa using hr3
      have k1 := zeroA_k e1
      have k2 := zeroA_k e2
      have k3 := zeroA_k e3
      generalize t1.a = a1 at k1
      generalize t2.a = a2 at k2
      generalize t3.a = a3 at k3
      subst k1 k2 k3
      left
      unfold clauseR colR
      simp only [List.cons_append, List.nil_append]
      rw [take_at en namP _ _ op (by simp) (by unfold namP; rw [j1]; rfl)]
      simp only [andR]
      rw [if_neg (by omega), take_at en colP _ _ op (by simp) (by unfold colP; rw [j2]; rfl)]
      simp only [andR]
      rw [if_neg (by omega), take_at en colP _ _ op (by simp) (by unfold colP; rw [j3]; rfl)]
      simp only [andR]
      rw [if_neg (by omega)]
  simpa [List.append_assoc] using c1
/-- A query that is written is read as it was, or lies too deep. -/
theorem query_back {q : Qry} (h : queryOkP q = true) (hf : FitQ q) : ∃ ks, Txt (queryTextP q) ks ∧ ∀ (en : Int) (ts : List Tok), ts.map zeroA = ks → Deep (wholeR en ⟨ts, 0⟩) q ⟨[], 0⟩ := by
  have hn : isNameP q.t = true := by
    unfold queryOkP at h
    simp only [Bool.and_eq_true] at h
    exact h.1
  obtain ⟨ks, h1, h2⟩ := clauses_ok h hf
  have hfr : isOpWord fromP = true := by decide +kernel
  have ht : Txts ([q.t] ++ joinL q ++ whereL q ++ groupL q ++ getL q) ([⟨3, q.t, 0, 0⟩] ++ ks) := by
    have := Txts.cons (txt_name hn) h1
    simpa [List.append_assoc] using this
  refine ⟨_, txt_brackets (txt_op hfr) ht, fun en ts hts => ?_⟩
  obtain ⟨t1, r, rfl, q1', hr'⟩ := List.map_eq_cons_iff.1 hts
  obtain ⟨r1, r2, rfl, hr1, hr2⟩ := List.map_eq_append_iff.1 hr'
  obtain ⟨r3, r4, rfl, hr3, hr4⟩ := List.map_eq_append_iff.1 hr1
  obtain ⟨r5, r6, rfl, hr5, hr6⟩ := List.map_eq_append_iff.1 hr4
  obtain ⟨aw, rfl⟩ := one_tok hr3
  obtain ⟨an, rfl⟩ := one_tok hr5
  obtain ⟨ac, rfl⟩ := one_tok hr2
  have k1 : t1.k = 1 := by rw [zeroA_k q1']
  have eL : t1 :: ([({ k := 3, t := fromP, n := 0, a := aw } : Tok)] ++ ([({ k := 3, t := q.t, n := 0, a := an } : Tok)] ++ r6) ++ [({ k := 2, t := [], n := 0, a := ac } : Tok)]) = t1 :: (⟨3, fromP, 0, aw⟩ :: (⟨3, q.t, 0, an⟩ :: (r6 ++ [⟨2, [], 0, ac⟩]))) := by simp
  rw [show (t1 :: ([({ ({ k := 3, t := fromP, n := 0, a := 0 } : Tok) with a := aw })] ++ ([({ ({ k := 3, t := q.t, n := 0, a := 0 } : Tok) with a := an })] ++ r6) ++ [({ ({ k := 2, t := [], n := 0, a := 0 } : Tok) with a := ac })])) = t1 :: (⟨3, fromP, 0, aw⟩ :: (⟨3, q.t, 0, an⟩ :: (r6 ++ [⟨2, [], 0, ac⟩]))) from eL]
  unfold wholeR
  refine Deep.and (x := q) (s := ⟨[], 0⟩) ?_ (.inl rfl)
  unfold queryR
  refine (take_open en opnP t1 _ 0 k1 (by simp [opnP, k1])).and ?_
  rw [take_at en _ ⟨3, fromP, 0, aw⟩ _ (0 + 1) (by simp) (by simp [atomP])]
  simp only [andR]
  rw [if_neg (by omega), take_at en namP ⟨3, q.t, 0, an⟩ _ (0 + 1) (by simp) (by unfold namP; rw [hn]; rfl)]
  simp only [andR]
  rw [if_neg (by omega)]
  refine Deep.and (h2 en 5 0 r6 ⟨2, [], 0, ac⟩ [] (0 + 1) (Nat.le_refl _) (by omega) hr6 rfl) ?_
  rw [take_at en clsP ⟨2, [], 0, ac⟩ _ (0 + 1) (by simp) rfl]
  simp only [andR]
  exact .inl rfl
/-- A right query's text is read as the query, or lies too deep, or is too long. -/
theorem parse_print {q : Qry} (h : queryOkP q = true) (hf : FitQ q) : parseP (queryTextP q) = (q, 0, 0) ∨ (∃ a, parseP (queryTextP q) = (zeroQ, 10, a)) ∨ (∃ a, parseP (queryTextP q) = (zeroQ, 4, a) ∧ 2048 < (queryTextP q).length) := by
  obtain ⟨ks, h1, h2⟩ := query_back h hf
  by_cases hl : 2048 < (queryTextP q).length
  · right; right
    refine ⟨0, ?_, hl⟩
    have : lexP (queryTextP q) = ([], 4, 0) := by unfold lexP; rw [if_pos hl]
    unfold parseP
    rw [this, if_pos (by simp)]
  · obtain ⟨ts, e1, e2⟩ := txt_lex h1 (by omega)
    have hc : checkQ q = 0 := by unfold checkQ; rw [if_pos h]
    rcases h2 ((lets (queryTextP q)).length : Int) ts e2 with hd | ⟨a, hd⟩
    · left
      have hr : readP (queryTextP q) = (q, 0, 0) := by unfold readP; rw [e1]; simp only; rw [hd]; rfl
      unfold parseP
      rw [e1, hr]
      simp only
      rw [if_neg (by simp), if_neg (by simp), hc, if_neg (by simp)]
    · right; left
      have hr : readP (queryTextP q) = (zeroQ, 10, a) := by unfold readP; rw [e1]; simp only; rw [hd]; rfl
      refine ⟨a, ?_⟩
      unfold parseP
      rw [e1, hr]
      simp only
      rw [if_neg (by simp), if_pos (by simp)]
end Go.Proofs.YtnmmojhbcnlboaaGreatDoor
/- How long a right query's text is. No walk stands in this text. -/
namespace Go.Proofs.YtnmmojhbcnlboaaGreatDoor
open Go.RowKit Go.Lib
set_option linter.unusedVariables false
set_option linter.unusedSimpArgs false
/-- Its numbers have 64 bits. -/
structure NumQ (q : Qry) : Prop where
  w : ∀ x ∈ q.w, I64 x.n
  i : ∀ x ∈ q.i, ∀ y ∈ x.e, I64 y.n
theorem FitQ.num {q : Qry} (h : FitQ q) : NumQ q := ⟨fun x hx => (h.w x hx).1, fun x hx y hy => (h.i x hx y hy).1⟩
theorem col_len {l : List UInt8} (h : isColP l = true) : l.length ≤ 129 := by
  unfold isColP at h
  rcases cut_dot l with e | ⟨a, b, rfl, e⟩
  · rw [e] at h
    have := (name_parts (by simpa using h)).2.1
    omega
  · rw [e] at h
    simp only [Bool.not_true, Bool.false_or, Bool.and_eq_true] at h
    have h1 := (name_parts h.1).2.1
    have h2 := (name_parts h.2).2.1
    simp only [List.length_append, List.length_cons]
    omega
theorem okP_of {x : Stp} (h : rStepP x = true) (hf : I64 x.n) : okP x := by
  obtain ⟨k, t, n⟩ := x
  unfold rStepP at h
  simp only at h
  split at h
  · cases h
  rename_i h0
  refine ⟨by show k < 256; omega, hf, ?_⟩
  show t.length ≤ 100000
  split at h
  · have : t = [] := by simpa using h
    rw [this]; simp
  split at h
  · simp only [Bool.and_eq_true, decide_eq_true_eq] at h
    omega
  split at h
  · rename_i h6
    simp only [Bool.and_eq_true] at h
    have := col_len h.2
    omega
  · simp only [Bool.and_eq_true, decide_eq_true_eq] at h
    rw [h.2]; simp
theorem right_all : ∀ (l : List Stp) (v : Nat), rightL l v = true → ∀ x ∈ l, rStepP x = true
  | [], _, _, x, hx => by cases hx
  | y :: l, v, h, x, hx => by
    unfold rightL at h
    split at h
    · cases h
    rename_i hc
    simp only [not_or, Bool.not_eq_false] at hc
    rcases List.mem_cons.1 hx with rfl | hx
    · exact (takes_of hc.1).1
    · exact right_all l _ h x hx
theorem exprGo_len : ∀ (l : List Stp) (st : List (List UInt8)), (∀ x ∈ l, okP x ∧ rStepP x = true) → (exprGo l st).flatten.length ≤ st.flatten.length + l.length * 100100
  | [], st, _ => by unfold exprGo; omega
  | x :: l, st, h => by
    unfold exprGo
    have hx := h x (by simp)
    have h2 : (takesP x).1 ≤ 2 := by unfold takesP takesN; rw [if_pos hx.2]; simp only; split <;> (try split) <;> omega
    have h1 := writeStepP_len x (st.drop (st.length - (takesP x).1)) hx.1 (by rw [List.length_drop]; omega)
    have h3 := exprGo_len l (st.take (st.length - (takesP x).1) ++ [writeStepP x (st.drop (st.length - (takesP x).1))]) fun y hy => h y (by simp [hy])
    have h4 : st.flatten.length = (st.take (st.length - (takesP x).1)).flatten.length + (st.drop (st.length - (takesP x).1)).flatten.length := by
      rw [← List.length_append, ← List.flatten_append, List.take_append_drop]
    have h5 : (st.take (st.length - (takesP x).1) ++ [writeStepP x (st.drop (st.length - (takesP x).1))]).flatten.length = (st.take (st.length - (takesP x).1)).flatten.length + (writeStepP x (st.drop (st.length - (takesP x).1))).length := by
      rw [List.flatten_append, List.length_append]; simp
    simp only [List.length_cons, Nat.add_mul, Nat.one_mul]
    omega
theorem head_len (l : List (List UInt8)) : (l.headD []).length ≤ l.flatten.length := by
  cases l with
  | nil => simp
  | cons x l => simp
theorem exprP_len {l : List Stp} (h : rightP l = true) (hf : ∀ x ∈ l, I64 x.n) : (exprP l).length ≤ 20000000 := by
  unfold rightP at h
  split at h
  · cases h
  rename_i h64
  have h1 := exprGo_len l [] fun x hx => ⟨okP_of (right_all l 0 h x hx) (hf x hx), right_all l 0 h x hx⟩
  have h2 := head_len (exprGo l [])
  unfold exprP
  simp only [List.flatten_nil, List.length_nil, Nat.zero_add] at h1
  have : l.length * 100100 ≤ 64 * 100100 := Nat.mul_le_mul_right _ (by omega)
  omega
theorem item_len {x : Itm} (h : itemOkP x = true) (hf : ∀ y ∈ x.e, I64 y.n) : (writeItemP x).length ≤ 30000000 := by
  unfold itemOkP at h
  unfold writeItemP
  have ha := aggTextP_len x.g
  have ha1 := aggTextP_len 1
  by_cases g0 : x.g = 0
  · rw [if_pos g0]
    rw [if_neg (by omega)] at h
    simp only [Bool.and_eq_true] at h
    have := exprP_len h.2 hf
    omega
  · rw [if_neg g0]
    by_cases g1 : x.g = 1
    · rw [if_pos g1, bracketsP_len]; simp; omega
    · rw [if_neg g1] at h ⊢
      simp only [Bool.and_eq_true] at h
      have := exprP_len h.2 hf
      rw [bracketsP_len]
      simp
      omega
theorem flat_le : ∀ (l : List (List UInt8)) (m : Nat), (∀ t ∈ l, t.length ≤ m) → l.flatten.length ≤ l.length * m
  | [], m, _ => by simp
  | x :: l, m, h => by
    have h1 := h x (by simp)
    have h2 := flat_le l m fun t ht => h t (by simp [ht])
    simp only [List.flatten_cons, List.length_append, List.length_cons, Nat.add_mul, Nat.one_mul]
    omega
theorem text_len {q : Qry} (h : queryOkP q = true) (hf : NumQ q) : (queryTextP q).length ≤ 1000000000 := by
  unfold queryOkP at h
  simp only [Bool.and_eq_true] at h
  obtain ⟨hn, hj, hw, hi, hg⟩ := h
  have ht := (name_parts hn).2.1
  have hwd := wordP_len
  have b1 : (joinL q).flatten.length ≤ 2000 ∧ (joinL q).length ≤ 1 := by
    unfold joinL
    split
    · simp
    · rename_i hj0
      unfold joinOkP at hj
      rw [if_neg hj0] at hj
      simp only [Bool.and_eq_true] at hj
      have := (name_parts hj.1).2.1
      have w0 := hwd 0
      have fa := col_len hj.2.2.1
      have fb := col_len hj.2.2.2
      refine ⟨?_, by simp⟩
      simp only [List.flatten_cons, List.flatten_nil, List.append_nil]
      rw [bracketsP_len]
      simp
      omega
  have b2 : (whereL q).flatten.length ≤ 20000100 ∧ (whereL q).length ≤ 1 := by
    unfold whereL
    split
    · simp
    · rename_i hw0
      unfold whereOkP at hw
      have hwr : rightP q.w = true := by simpa [hw0] using hw
      have := exprP_len hwr hf.w
      have w0 := hwd 1
      refine ⟨?_, by simp⟩
      simp only [List.flatten_cons, List.flatten_nil, List.append_nil]
      rw [bracketsP_len]
      simp
      omega
  have b3 : (groupL q).flatten.length ≤ 2000 ∧ (groupL q).length ≤ 1 := by
    unfold groupL
    split
    · simp
    · unfold groupOkP at hg
      split at hg
      · cases hg
      rename_i h8
      split at hg
      · cases hg
      rename_i hall
      have h1 := flat_le q.g 129 fun t ht => col_len (List.all_eq_true.1 (by simpa using hall) t ht)
      have w0 := hwd 2
      have h3 : q.g.length * 129 ≤ 8 * 129 := Nat.mul_le_mul_right _ (by omega)
      refine ⟨?_, by simp⟩
      simp only [List.flatten_cons, List.flatten_nil, List.append_nil]
      rw [bracketsP_len]
      omega
  have b4 : (getL q).flatten.length ≤ 240001000 ∧ (getL q).length ≤ 1 := by
    unfold getL
    split
    · simp
    · unfold itemsOkP at hi
      split at hi
      · cases hi
      rename_i h8
      rw [List.all_eq_true] at hi
      have h1 := flat_le (q.i.map writeItemP) 30000000 fun t ht => by
        obtain ⟨x, hx, rfl⟩ := List.mem_map.1 ht
        exact item_len (hi x hx) (hf.i x hx)
      have w0 := hwd 3
      rw [List.length_map] at h1
      have h3 : q.i.length * 30000000 ≤ 8 * 30000000 := Nat.mul_le_mul_right _ (by omega)
      refine ⟨?_, by simp⟩
      simp only [List.flatten_cons, List.flatten_nil, List.append_nil]
      rw [bracketsP_len, List.length_map]
      omega
  unfold queryTextP
  rw [bracketsP_len]
  have hfr : fromP.length = 4 := rfl
  simp only [List.flatten_append, List.length_append, List.flatten_cons, List.flatten_nil, List.append_nil, List.length_cons, List.length_nil]
  omega
end Go.Proofs.YtnmmojhbcnlboaaGreatDoor
