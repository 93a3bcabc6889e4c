/- How long a right query's text is. No walk stands in this text. -/
import Derived.Test.YthpcpaggbhgcoaaGreatDoorSeSf
namespace Go.Proofs.YthpcpaggbhgcoaaGreatDoor
open Go.RowKit Go.Lib
set_option linter.unusedVariables false
set_option linter.unusedSimpArgs false
/-- Its numbers have 64 bits. -/
structure NumQ (q : Qry) : Prop where
  w : ∀ x ∈ q.w, I64 x.n
  i : ∀ x ∈ q.i, ∀ y ∈ x.e, I64 y.n
theorem FitQ.num {q : Qry} (h : FitQ q) : NumQ q := ⟨fun x hx => (h.w x hx).1, fun x hx y hy => (h.i x hx y hy).1⟩
theorem col_len {l : List UInt8} (h : isColP l = true) : l.length ≤ 129 := by
  unfold isColP at h
  rcases cut_dot l with e | ⟨a, b, rfl, e⟩
  · rw [e] at h
    have := (name_parts (by simpa using h)).2.1
    omega
  · rw [e] at h
    simp only [Bool.not_true, Bool.false_or, Bool.and_eq_true] at h
    have h1 := (name_parts h.1).2.1
    have h2 := (name_parts h.2).2.1
    simp only [List.length_append, List.length_cons]
    omega
theorem okP_of {x : Stp} (h : rStepP x = true) (hf : I64 x.n) : okP x := by
  obtain ⟨k, t, n⟩ := x
  unfold rStepP at h
  simp only at h
  split at h
  · cases h
  rename_i h0
  refine ⟨by show k < 256; omega, hf, ?_⟩
  show t.length ≤ 100000
  split at h
  · have : t = [] := by simpa using h
    rw [this]; simp
  split at h
  · simp only [Bool.and_eq_true, decide_eq_true_eq] at h
    omega
  split at h
  · rename_i h6
    simp only [Bool.and_eq_true] at h
    have := col_len h.2
    omega
  · simp only [Bool.and_eq_true, decide_eq_true_eq] at h
    rw [h.2]; simp
theorem right_all : ∀ (l : List Stp) (v : Nat), rightL l v = true → ∀ x ∈ l, rStepP x = true
  | [], _, _, x, hx => by cases hx
  | y :: l, v, h, x, hx => by
    unfold rightL at h
    split at h
    · cases h
    rename_i hc
    simp only [not_or, Bool.not_eq_false] at hc
    rcases List.mem_cons.1 hx with rfl | hx
    · exact (takes_of hc.1).1
    · exact right_all l _ h x hx
theorem exprGo_len : ∀ (l : List Stp) (st : List (List UInt8)), (∀ x ∈ l, okP x ∧ rStepP x = true) → (exprGo l st).flatten.length ≤ st.flatten.length + l.length * 100100
  | [], st, _ => by unfold exprGo; omega
  | x :: l, st, h => by
    unfold exprGo
    have hx := h x (by simp)
    have h2 : (takesP x).1 ≤ 2 := by unfold takesP takesN; rw [if_pos hx.2]; simp only; split <;> (try split) <;> omega
    have h1 := writeStepP_len x (st.drop (st.length - (takesP x).1)) hx.1 (by rw [List.length_drop]; omega)
    have h3 := exprGo_len l (st.take (st.length - (takesP x).1) ++ [writeStepP x (st.drop (st.length - (takesP x).1))]) fun y hy => h y (by simp [hy])
    have h4 : st.flatten.length = (st.take (st.length - (takesP x).1)).flatten.length + (st.drop (st.length - (takesP x).1)).flatten.length := by
      rw [← List.length_append, ← List.flatten_append, List.take_append_drop]
    have h5 : (st.take (st.length - (takesP x).1) ++ [writeStepP x (st.drop (st.length - (takesP x).1))]).flatten.length = (st.take (st.length - (takesP x).1)).flatten.length + (writeStepP x (st.drop (st.length - (takesP x).1))).length := by
      rw [List.flatten_append, List.length_append]; simp
    simp only [List.length_cons, Nat.add_mul, Nat.one_mul]
    omega
theorem head_len (l : List (List UInt8)) : (l.headD []).length ≤ l.flatten.length := by
  cases l with
  | nil => simp
  | cons x l => simp
theorem exprP_len {l : List Stp} (h : rightP l = true) (hf : ∀ x ∈ l, I64 x.n) : (exprP l).length ≤ 20000000 := by
  unfold rightP at h
  split at h
  · cases h
  rename_i h64
  have h1 := exprGo_len l [] fun x hx => ⟨okP_of (right_all l 0 h x hx) (hf x hx), right_all l 0 h x hx⟩
  have h2 := head_len (exprGo l [])
  unfold exprP
  simp only [List.flatten_nil, List.length_nil, Nat.zero_add] at h1
  have : l.length * 100100 ≤ 64 * 100100 := Nat.mul_le_mul_right _ (by omega)
  omega
theorem item_len {x : Itm} (h : itemOkP x = true) (hf : ∀ y ∈ x.e, I64 y.n) : (writeItemP x).length ≤ 30000000 := by
  unfold itemOkP at h
  unfold writeItemP
  have ha := aggTextP_len x.g
  have ha1 := aggTextP_len 1
  by_cases g0 : x.g = 0
  · rw [if_pos g0]
    rw [if_neg (by omega)] at h
    simp only [Bool.and_eq_true] at h
    have := exprP_len h.2 hf
    omega
  · rw [if_neg g0]
    by_cases g1 : x.g = 1
    · rw [if_pos g1, bracketsP_len]; simp; omega
    · rw [if_neg g1] at h ⊢
      simp only [Bool.and_eq_true] at h
      have := exprP_len h.2 hf
      rw [bracketsP_len]
      simp
      omega
theorem flat_le : ∀ (l : List (List UInt8)) (m : Nat), (∀ t ∈ l, t.length ≤ m) → l.flatten.length ≤ l.length * m
  | [], m, _ => by simp
  | x :: l, m, h => by
    have h1 := h x (by simp)
    have h2 := flat_le l m fun t ht => h t (by simp [ht])
    simp only [List.flatten_cons, List.length_append, List.length_cons, Nat.add_mul, Nat.one_mul]
    omega
theorem text_len {q : Qry} (h : queryOkP q = true) (hf : NumQ q) : (queryTextP q).length ≤ 1000000000 := by
  unfold queryOkP at h
  simp only [Bool.and_eq_true] at h
  obtain ⟨hn, hj, hw, hi, hg⟩ := h
  have ht := (name_parts hn).2.1
  have hwd := wordP_len
  have b1 : (joinL q).flatten.length ≤ 2000 ∧ (joinL q).length ≤ 1 := by
    unfold joinL
    split
    · simp
    · rename_i hj0
      unfold joinOkP at hj
      rw [if_neg hj0] at hj
      simp only [Bool.and_eq_true] at hj
      have := (name_parts hj.1).2.1
      have w0 := hwd 0
      have fa := col_len hj.2.2.1
      have fb := col_len hj.2.2.2
      refine ⟨?_, by simp⟩
      simp only [List.flatten_cons, List.flatten_nil, List.append_nil]
      rw [bracketsP_len]
      simp
      omega
  have b2 : (whereL q).flatten.length ≤ 20000100 ∧ (whereL q).length ≤ 1 := by
    unfold whereL
    split
    · simp
    · rename_i hw0
      unfold whereOkP at hw
      have hwr : rightP q.w = true := by simpa [hw0] using hw
      have := exprP_len hwr hf.w
      have w0 := hwd 1
      refine ⟨?_, by simp⟩
      simp only [List.flatten_cons, List.flatten_nil, List.append_nil]
      rw [bracketsP_len]
      simp
      omega
  have b3 : (groupL q).flatten.length ≤ 2000 ∧ (groupL q).length ≤ 1 := by
    unfold groupL
    split
    · simp
    · unfold groupOkP at hg
      split at hg
      · cases hg
      rename_i h8
      split at hg
      · cases hg
      rename_i hall
      have h1 := flat_le q.g 129 fun t ht => col_len (List.all_eq_true.1 (by simpa using hall) t ht)
      have w0 := hwd 2
      have h3 : q.g.length * 129 ≤ 8 * 129 := Nat.mul_le_mul_right _ (by omega)
      refine ⟨?_, by simp⟩
      simp only [List.flatten_cons, List.flatten_nil, List.append_nil]
      rw [bracketsP_len]
      omega
  have b4 : (getL q).flatten.length ≤ 240001000 ∧ (getL q).length ≤ 1 := by
    unfold getL
    split
    · simp
    · unfold itemsOkP at hi
      split at hi
      · cases hi
      rename_i h8
      rw [List.all_eq_true] at hi
      have h1 := flat_le (q.i.map writeItemP) 30000000 fun t ht => by
        obtain ⟨x, hx, rfl⟩ := List.mem_map.1 ht
        exact item_len (hi x hx) (hf.i x hx)
      have w0 := hwd 3
      rw [List.length_map] at h1
      have h3 : q.i.length * 30000000 ≤ 8 * 30000000 := Nat.mul_le_mul_right _ (by omega)
      refine ⟨?_, by simp⟩
      simp only [List.flatten_cons, List.flatten_nil, List.append_nil]
      rw [bracketsP_len, List.length_map]
      omega
  unfold queryTextP
  rw [bracketsP_len]
  have hfr : fromP.length = 4 := rfl
  simp only [List.flatten_append, List.length_append, List.flatten_cons, List.flatten_nil, List.append_nil, List.length_cons, List.length_nil]
  omega
end Go.Proofs.YthpcpaggbhgcoaaGreatDoor
