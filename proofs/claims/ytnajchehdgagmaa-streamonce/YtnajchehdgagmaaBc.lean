/- All of a stream comes: the walk of StreamEnds. -/
import Derived.Test.YtnajchehdgagmaaBb
namespace Go.Proofs.Ytnajchehdgagmaa
open Go.Shelf Go.RowKit Go.Lib Go.Sort
set_option linter.unusedVariables false
set_option linter.unusedSimpArgs false
attribute [local go_sem ↓] Go.wp_at_zero Go.wp_at_succ
/-- What was received of batches, j having come. -/
def inAt (s : Strm) (bs : List (List (List Val))) (j : Nat) : In_ := ⟨s, j, [], (bs.take j).flatten, decide (j = bs.length)⟩
/-- The j-th batch. -/
def mgAt (s : Strm) (bs : List (List (List Val))) (j : Nat) : Mg := ⟨s, j, decide (j + 1 = bs.length), bs[j]?.getD []⟩
theorem flat_le (bs : List (List (List Val))) (h8 : ∀ c ∈ bs, c.length ≤ 8) : ∀ j, (bs.take j).flatten.length ≤ 8 * j
  | 0 => by simp
  | j + 1 => by
    by_cases hj : j < bs.length
    · rw [List.take_succ_eq_append_getElem hj, List.flatten_append, List.length_append]
      have := flat_le bs h8 j
      have := h8 _ (List.getElem_mem hj)
      simp only [List.flatten_cons, List.flatten_nil, List.append_nil]
      omega
    · rw [List.take_of_length_le (by omega)]
      have := flat_le bs h8 j
      rw [List.take_of_length_le (by omega)] at this
      omega
theorem inAt_ok (s : Strm) (bs : List (List (List Val))) (j : Nat) (h8 : ∀ c ∈ bs, c.length ≤ 8) (hj : j ≤ bs.length) (hb : bs.length ≤ 512) (hp : 0 < bs.length) : inE (inAt s bs j) = 0 := by
  have := flat_le bs h8 j
  unfold inE inAt
  simp only []
  rw [if_neg (by omega), if_neg (by omega), if_neg (by simp [heldP])]
  by_cases e : j = bs.length
  · rw [decide_eq_true e, if_neg (by simp), if_neg (by simp), if_neg (by omega)]
  · rw [decide_eq_false e, if_pos rfl]
theorem ref_at (s : Strm) (bs : List (List (List Val))) (j : Nat) (hj : j < bs.length) (hb : bs.length ≤ 512) : refE (inAt s bs j) (mgAt s bs j) = 0 := by
  unfold refE inAt mgAt
  simp only []
  rw [decide_eq_false (show ¬ j = bs.length by omega), if_neg (by simp), if_neg (by omega), if_neg (by simp), if_neg (by omega), if_neg (by omega), if_neg (by simp)]
theorem take_at (s : Strm) (bs : List (List (List Val))) (j : Nat) (hj : j < bs.length) (hb : bs.length ≤ 512) : takeP (inAt s bs j) (mgAt s bs j) = inAt s bs (j + 1) := by
  unfold takeP
  rw [if_pos (ref_at s bs j hj hb)]
  unfold passI inAt mgAt
  simp only [insB, List.findIdx_nil, List.take_nil, List.drop_nil, List.nil_append]
  rw [show passP j (decide (j = bs.length)) (bs.take j).flatten [⟨j, decide (j + 1 = bs.length), bs[j]?.getD []⟩] = (j + 1, decide (j + 1 = bs.length), (bs.take j).flatten ++ (bs[j]?.getD []), []) by simp [passP]]
  simp only []
  rw [List.take_succ_eq_append_getElem hj, List.flatten_append, List.getElem?_eq_getElem hj]
  simp
theorem sendP_at (s : Strm) (bs : List (List (List Val))) (a i : Nat) (hi : i < (sendP ⟨s, bs, a⟩).length) : (sendP ⟨s, bs, a⟩)[i] = mgAt s bs (a + i) := by
  have h : ∀ (l : List Mg) (e : l = (List.range (sendN ⟨s, bs, a⟩)).map (sendM ⟨s, bs, a⟩)) (hi : i < l.length), l[i] = mgAt s bs (a + i) := by
    intro l e hi
    subst e
    rw [List.getElem_map, List.getElem_range]
    rfl
  exact h _ rfl hi
theorem mgAt_le (s : Strm) (bs : List (List (List Val))) (j : Nat) (h8 : ∀ c ∈ bs, c.length ≤ 8) : (mgAt s bs j).r.length ≤ 8 := by
  unfold mgAt
  by_cases h : j < bs.length
  · simp only [List.getElem?_eq_getElem h, Option.getD_some]; exact h8 _ (List.getElem_mem h)
  · simp only [List.getElem?_eq_none (show bs.length ≤ j by omega), Option.getD_none]; simp
/-- How it stands between two rounds. -/
structure EndI (s : Strm) (bs : List (List (List Val))) (w : World) (T5 T7 a j : Nat) (W : World) : Prop where
  o : ∃ q c, ∃ K : Nat → Prop, W.heap[T5]? = some (.cells #[.int .u64 (s.qb : Int), .int .u64 (s.qn : Int), .int .i64 s.at_, .int .i64 s.fr, .int .i64 s.tq, .slice q bs.length c, .int .u64 (a : Int)] 33 (0, 0)) ∧ (∀ b, K b → b < W.heap.size ∧ b ≠ T5 ∧ b ≠ T7) ∧ rOut K W [.int .u64 (s.qb : Int), .int .u64 (s.qn : Int), .int .i64 s.at_, .int .i64 s.fr, .int .i64 s.tq, .slice q bs.length c, .int .u64 (a : Int)] ⟨s, bs, a⟩
  i : ∃ q c q2 c2, ∃ K : Nat → Prop, W.heap[T7]? = some (.cells #[.int .u64 (s.qb : Int), .int .u64 (s.qn : Int), .int .i64 s.at_, .int .i64 s.fr, .int .i64 s.tq, .int .u64 (j : Int), .slice q 0 c, .slice q2 (bs.take j).flatten.length c2, .bool (decide (j = bs.length))] 39 (0, 0)) ∧ (∀ b, K b → b < W.heap.size ∧ b ≠ T5 ∧ b ≠ T7) ∧ rIn K W [.int .u64 (s.qb : Int), .int .u64 (s.qn : Int), .int .i64 s.at_, .int .i64 s.fr, .int .i64 s.tq, .int .u64 (j : Int), .slice q 0 c, .slice q2 (bs.take j).flatten.length c2, .bool (decide (j = bs.length))] (inAt s bs j)
  st : W.heap[w.heap.size]? = some (.cells #[.int .u64 (s.qb : Int), .int .u64 (s.qn : Int), .int .i64 s.at_, .int .i64 s.fr, .int .i64 s.tq] 26 (0, 0))
  bel : Below w.heap.size w W
  sz : w.heap.size < T5 ∧ T5 < T7 ∧ T7 < W.heap.size
theorem EndI.later {s : Strm} {bs : List (List (List Val))} {w W W' : World} {T5 T7 a j : Nat} (h : EndI s bs w T5 T7 a j W) (hb : Below W.heap.size W W') : EndI s bs w T5 T7 a j W' := by
  obtain ⟨q, c, K, g, hK, hr⟩ := h.o
  obtain ⟨q', c', q2, c2, K', g', hK', hr'⟩ := h.i
  have hz := h.sz
  exact ⟨⟨q, c, K, (hb.block _ (by omega)).trans g, fun b hb' => ⟨Nat.lt_of_lt_of_le (hK b hb').1 hb.size, (hK b hb').2⟩, mOut _ _ _ _ _ _ (fun _ h => h) (kept_of (fun b hb' => (hK b hb').1) hb) hr⟩, ⟨q', c', q2, c2, K', (hb.block _ (by omega)).trans g', fun b hb' => ⟨Nat.lt_of_lt_of_le (hK' b hb').1 hb.size, (hK' b hb').2⟩, mIn _ _ _ _ _ _ (fun _ h => h) (kept_of (fun b hb' => (hK' b hb').1) hb) hr'⟩, (hb.block _ (by omega)).trans h.st, h.bel.trans (hb.mono h.bel.size), ⟨hz.1, hz.2.1, Nat.lt_of_lt_of_le hz.2.2 hb.size⟩⟩
theorem EndI.take {s : Strm} {bs : List (List (List Val))} {w W W' : World} {T5 T7 a j : Nat} (h : EndI s bs w T5 T7 a j W) (hb : Below W.heap.size W W') {q c q2 c2} (hr : rIn (From W.heap.size W') W' [.int .u64 (s.qb : Int), .int .u64 (s.qn : Int), .int .i64 s.at_, .int .i64 s.fr, .int .i64 s.tq, .int .u64 ((j + 1 : Nat) : Int), .slice q 0 c, .slice q2 (bs.take (j + 1)).flatten.length c2, .bool (decide ((j + 1) = bs.length))] (inAt s bs (j + 1))) :
    W'.there T7 0 9 ∧ ∃ X, W'.setCells T7 0 [.int .u64 (s.qb : Int), .int .u64 (s.qn : Int), .int .i64 s.at_, .int .i64 s.fr, .int .i64 s.tq, .int .u64 ((j + 1 : Nat) : Int), .slice q 0 c, .slice q2 (bs.take (j + 1)).flatten.length c2, .bool (decide ((j + 1) = bs.length))] = X ∧ EndI s bs w T5 T7 a (j + 1) X ∧ Kept (fun b => b ≠ T7) W' X := by
  have h2 := h.later hb
  obtain ⟨_, _, _, _, _, g', _⟩ := h2.i
  obtain ⟨qo, co, K, g, hK, hro⟩ := h2.o
  have hz := h2.sz
  have hz0 := h.sz
  obtain ⟨hth, X, hX, _, hsX, hkX⟩ := put_row W' T7 _ 39 g' [.int .u64 (s.qb : Int), .int .u64 (s.qn : Int), .int .i64 s.at_, .int .i64 s.fr, .int .i64 s.tq, .int .u64 ((j + 1 : Nat) : Int), .slice q 0 c, .slice q2 (bs.take (j + 1)).flatten.length c2, .bool (decide ((j + 1) = bs.length))] rfl Try.underlying39 rfl sz_In
  have hgX : X.heap[T7]? = some (.cells #[.int .u64 (s.qb : Int), .int .u64 (s.qn : Int), .int .i64 s.at_, .int .i64 s.fr, .int .i64 s.tq, .int .u64 ((j + 1 : Nat) : Int), .slice q 0 c, .slice q2 (bs.take (j + 1)).flatten.length c2, .bool (decide ((j + 1) = bs.length))] 39 (0, 0)) := by rw [← hX]; exact box_full W' T7 _ 39 g' _ rfl
  refine ⟨hth, X, hX, ⟨⟨qo, co, K, (hkX.block _ (by show _ ≠ _; omega)).trans g, fun b hb' => ⟨by have := (hK b hb').1; omega, (hK b hb').2⟩, mOut _ _ _ _ _ _ (fun _ h => h) (hkX.less fun b hb' => (hK b hb').2.2) hro⟩, ⟨q, c, q2, c2, From W.heap.size W', hgX, fun b hb' => ⟨by have := hb'.2; omega, by have := hb'.1; omega, by have := hb'.1; omega⟩, mIn _ _ _ _ _ _ (fun _ h => h) (hkX.less fun b hb' => by have := hb'.1; show b ≠ _; omega) hr⟩, (hkX.block _ (by show _ ≠ _; omega)).trans h2.st, ⟨hkX.os.trans h2.bel.os, hkX.tape.trans h2.bel.tape, hkX.output.trans h2.bel.output, by have := h2.bel.size; omega, fun b hb' => (hkX.block b (by show b ≠ _; omega)).trans (h2.bel.block b hb')⟩, by omega⟩, hkX⟩
theorem EndI.ack {s : Strm} {bs : List (List (List Val))} {w W W' : World} {T5 T7 a j a' : Nat} (h : EndI s bs w T5 T7 a j W) (hb : Below W.heap.size W W') {q c} (hr : rOut (From W.heap.size W') W' [.int .u64 (s.qb : Int), .int .u64 (s.qn : Int), .int .i64 s.at_, .int .i64 s.fr, .int .i64 s.tq, .slice q bs.length c, .int .u64 (a' : Int)] ⟨s, bs, a'⟩) :
    W'.there T5 0 7 ∧ ∃ X, W'.setCells T5 0 [.int .u64 (s.qb : Int), .int .u64 (s.qn : Int), .int .i64 s.at_, .int .i64 s.fr, .int .i64 s.tq, .slice q bs.length c, .int .u64 (a' : Int)] = X ∧ EndI s bs w T5 T7 a' j X := by
  have h2 := h.later hb
  obtain ⟨_, _, _, g, _⟩ := h2.o
  obtain ⟨qi, ci, q2, c2, K, g', hK, hri⟩ := h2.i
  have hz := h2.sz
  have hz0 := h.sz
  obtain ⟨hth, X, hX, _, hsX, hkX⟩ := put_row W' T5 _ 33 g [.int .u64 (s.qb : Int), .int .u64 (s.qn : Int), .int .i64 s.at_, .int .i64 s.fr, .int .i64 s.tq, .slice q bs.length c, .int .u64 (a' : Int)] rfl Try.underlying33 rfl sz_Out
  have hgX : X.heap[T5]? = some (.cells #[.int .u64 (s.qb : Int), .int .u64 (s.qn : Int), .int .i64 s.at_, .int .i64 s.fr, .int .i64 s.tq, .slice q bs.length c, .int .u64 (a' : Int)] 33 (0, 0)) := by rw [← hX]; exact box_full W' T5 _ 33 g _ rfl
  refine ⟨hth, X, hX, ⟨q, c, From W.heap.size W', hgX, fun b hb' => ⟨by have := hb'.2; omega, by have := hb'.1; omega, by have := hb'.1; omega⟩, mOut _ _ _ _ _ _ (fun _ h => h) (hkX.less fun b hb' => by have := hb'.1; show b ≠ _; omega) hr⟩, ⟨qi, ci, q2, c2, K, (hkX.block _ (by show _ ≠ _; omega)).trans g', fun b hb' => ⟨by have := (hK b hb').1; omega, (hK b hb').2⟩, mIn _ _ _ _ _ _ (fun _ h => h) (hkX.less fun b hb' => (hK b hb').2.1) hri⟩, (hkX.block _ (by show _ ≠ _; omega)).trans h2.st, ⟨hkX.os.trans h2.bel.os, hkX.tape.trans h2.bel.tape, hkX.output.trans h2.bel.output, by have := h2.bel.size; omega, fun b hb' => (hkX.block b (by show b ≠ _; omega)).trans (h2.bel.block b hb')⟩, by omega⟩
end Go.Proofs.Ytnajchehdgagmaa
