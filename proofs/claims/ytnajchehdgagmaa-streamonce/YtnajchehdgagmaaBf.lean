/- What StreamOnce keeps between two rounds. -/
import Derived.Test.YtnajchehdgagmaaBe
namespace Go.Proofs.Ytnajchehdgagmaa
open Go.Shelf Go.RowKit Go.Lib Go.Sort
set_option linter.unusedVariables false
set_option linter.unusedSimpArgs false
attribute [local go_sem ↓] Go.wp_at_zero Go.wp_at_succ
/-- How it stands between two rounds. -/
structure OncI (s : Strm) (bs : List (List (List Val))) (w : World) (T5 T7 base a : Nat) (x : In_) (u : Value) (xs : List Mg) (W : World) : Prop where
  o : ∃ q c, ∃ K : Nat → Prop, W.heap[T5]? = some (.cells #[.int .u64 (s.qb : Int), .int .u64 (s.qn : Int), .int .i64 s.at_, .int .i64 s.fr, .int .i64 s.tq, .slice q bs.length c, .int .u64 (a : Int)] 33 (0, 0)) ∧ (∀ b, K b → b < W.heap.size ∧ b ≠ T5 ∧ b ≠ T7 ∧ u.ownBlock ≠ some b) ∧ rOut K W [.int .u64 (s.qb : Int), .int .u64 (s.qn : Int), .int .i64 s.at_, .int .i64 s.fr, .int .i64 s.tq, .slice q bs.length c, .int .u64 (a : Int)] ⟨s, bs, a⟩
  i : ∃ q c q2 c2, ∃ K : Nat → Prop, W.heap[T7]? = some (.cells #[.int .u64 (s.qb : Int), .int .u64 (s.qn : Int), .int .i64 s.at_, .int .i64 s.fr, .int .i64 s.tq, .int .u64 (x.n : Int), .slice q x.h.length c, .slice q2 x.r.length c2, .bool x.d] 39 (0, 0)) ∧ (∀ b, K b → b < W.heap.size ∧ b ≠ T5 ∧ b ≠ T7 ∧ u.ownBlock ≠ some b) ∧ rIn K W [.int .u64 (s.qb : Int), .int .u64 (s.qn : Int), .int .i64 s.at_, .int .i64 s.fr, .int .i64 s.tq, .int .u64 (x.n : Int), .slice q x.h.length c, .slice q2 x.r.length c2, .bool x.d] x
  st : W.heap[w.heap.size]? = some (.cells #[.int .u64 (s.qb : Int), .int .u64 (s.qn : Int), .int .i64 s.at_, .int .i64 s.fr, .int .i64 s.tq] 26 (0, 0))
  bel : Below w.heap.size w W
  sz : w.heap.size < T5 ∧ T5 < T7 ∧ T7 < base ∧ base ≤ W.heap.size
  own : OwnR rMg 47 65 base W u xs
theorem OncI.later {s : Strm} {bs : List (List (List Val))} {w W W' : World} {T5 T7 base a : Nat} {x : In_} {u : Value} {xs : List Mg} (h : OncI s bs w T5 T7 base a x u xs W) (hb : Below W.heap.size W W') : OncI s bs w T5 T7 base a x u xs W' := by
  obtain ⟨q, c, K, g, hK, hr⟩ := h.o
  obtain ⟨q', c', q2, c2, K', g', hK', hr'⟩ := h.i
  have hz := h.sz
  have hs := hb.size
  exact ⟨⟨q, c, K, (hb.block _ (by omega)).trans g, fun b hb' => ⟨Nat.lt_of_lt_of_le (hK b hb').1 hs, (hK b hb').2⟩, mOut _ _ _ _ _ _ (fun _ h => h) (kept_of (fun b hb' => (hK b hb').1) hb) hr⟩, ⟨q', c', q2, c2, K', (hb.block _ (by omega)).trans g', fun b hb' => ⟨Nat.lt_of_lt_of_le (hK' b hb').1 hs, (hK' b hb').2⟩, mIn _ _ _ _ _ _ (fun _ h => h) (kept_of (fun b hb' => (hK' b hb').1) hb) hr'⟩, (hb.block _ (by omega)).trans h.st, h.bel.trans (hb.mono h.bel.size), ⟨hz.1, hz.2.1, hz.2.2.1, by omega⟩, h.own.keep mMg hb⟩
theorem OncI.putI {s : Strm} {bs : List (List (List Val))} {w W : World} {T5 T7 base a : Nat} {x : In_} {u : Value} {xs : List Mg} (h : OncI s bs w T5 T7 base a x u xs W) {x' : In_} {q c q2 c2} {K : Nat → Prop} (hr : rIn K W [.int .u64 (s.qb : Int), .int .u64 (s.qn : Int), .int .i64 s.at_, .int .i64 s.fr, .int .i64 s.tq, .int .u64 (x'.n : Int), .slice q x'.h.length c, .slice q2 x'.r.length c2, .bool x'.d] x') (hK : ∀ b, K b → b < W.heap.size ∧ b ≠ T5 ∧ b ≠ T7 ∧ u.ownBlock ≠ some b) :
    W.there T7 0 9 ∧ ∃ X, W.setCells T7 0 [.int .u64 (s.qb : Int), .int .u64 (s.qn : Int), .int .i64 s.at_, .int .i64 s.fr, .int .i64 s.tq, .int .u64 (x'.n : Int), .slice q x'.h.length c, .slice q2 x'.r.length c2, .bool x'.d] = X ∧ OncI s bs w T5 T7 base a x' u xs X := by
  obtain ⟨_, _, _, _, _, g', _⟩ := h.i
  obtain ⟨qo, co, Ko, g, hKo, hro⟩ := h.o
  have hz := h.sz
  obtain ⟨hth, X, hX, _, hsX, hkX⟩ := put_row W T7 _ 39 g' [.int .u64 (s.qb : Int), .int .u64 (s.qn : Int), .int .i64 s.at_, .int .i64 s.fr, .int .i64 s.tq, .int .u64 (x'.n : Int), .slice q x'.h.length c, .slice q2 x'.r.length c2, .bool x'.d] rfl Try.underlying39 rfl sz_In
  have hgX : X.heap[T7]? = some (.cells #[.int .u64 (s.qb : Int), .int .u64 (s.qn : Int), .int .i64 s.at_, .int .i64 s.fr, .int .i64 s.tq, .int .u64 (x'.n : Int), .slice q x'.h.length c, .slice q2 x'.r.length c2, .bool x'.d] 39 (0, 0)) := by rw [← hX]; exact box_full W T7 _ 39 g' _ rfl
  refine ⟨hth, X, hX, ⟨⟨qo, co, Ko, (hkX.block _ (by show _ ≠ _; omega)).trans g, fun b hb' => ⟨by have := (hKo b hb').1; omega, (hKo b hb').2⟩, mOut _ _ _ _ _ _ (fun _ h => h) (hkX.less fun b hb' => (hKo b hb').2.2.1) hro⟩, ⟨q, c, q2, c2, K, hgX, fun b hb' => ⟨by have := (hK b hb').1; omega, (hK b hb').2⟩, mIn _ _ _ _ _ _ (fun _ h => h) (hkX.less fun b hb' => (hK b hb').2.2.1) hr⟩, (hkX.block _ (by show _ ≠ _; omega)).trans h.st, ⟨hkX.os.trans h.bel.os, hkX.tape.trans h.bel.tape, hkX.output.trans h.bel.output, by have := h.bel.size; omega, fun b hb' => (hkX.block b (by show b ≠ _; omega)).trans (h.bel.block b hb')⟩, by omega, h.own.kept mMg (hkX.less fun b hb' => by show b ≠ _; have : base ≤ b := hb'; omega)⟩⟩
theorem OncI.putO {s : Strm} {bs : List (List (List Val))} {w W : World} {T5 T7 base a : Nat} {x : In_} {u : Value} {xs : List Mg} (h : OncI s bs w T5 T7 base a x u xs W) {a' : Nat} {q c} {K : Nat → Prop} (hr : rOut K W [.int .u64 (s.qb : Int), .int .u64 (s.qn : Int), .int .i64 s.at_, .int .i64 s.fr, .int .i64 s.tq, .slice q bs.length c, .int .u64 (a' : Int)] ⟨s, bs, a'⟩) (hK : ∀ b, K b → b < W.heap.size ∧ b ≠ T5 ∧ b ≠ T7 ∧ u.ownBlock ≠ some b) :
    W.there T5 0 7 ∧ ∃ X, W.setCells T5 0 [.int .u64 (s.qb : Int), .int .u64 (s.qn : Int), .int .i64 s.at_, .int .i64 s.fr, .int .i64 s.tq, .slice q bs.length c, .int .u64 (a' : Int)] = X ∧ OncI s bs w T5 T7 base a' x u xs X := by
  obtain ⟨_, _, _, g, _⟩ := h.o
  obtain ⟨qi, ci, q2, c2, Ki, g', hKi, hri⟩ := h.i
  have hz := h.sz
  obtain ⟨hth, X, hX, _, hsX, hkX⟩ := put_row W T5 _ 33 g [.int .u64 (s.qb : Int), .int .u64 (s.qn : Int), .int .i64 s.at_, .int .i64 s.fr, .int .i64 s.tq, .slice q bs.length c, .int .u64 (a' : Int)] rfl Try.underlying33 rfl sz_Out
  have hgX : X.heap[T5]? = some (.cells #[.int .u64 (s.qb : Int), .int .u64 (s.qn : Int), .int .i64 s.at_, .int .i64 s.fr, .int .i64 s.tq, .slice q bs.length c, .int .u64 (a' : Int)] 33 (0, 0)) := by rw [← hX]; exact box_full W T5 _ 33 g _ rfl
  refine ⟨hth, X, hX, ⟨⟨q, c, K, hgX, fun b hb' => ⟨by have := (hK b hb').1; omega, (hK b hb').2⟩, mOut _ _ _ _ _ _ (fun _ h => h) (hkX.less fun b hb' => (hK b hb').2.1) hr⟩, ⟨qi, ci, q2, c2, Ki, (hkX.block _ (by show _ ≠ _; omega)).trans g', fun b hb' => ⟨by have := (hKi b hb').1; omega, (hKi b hb').2⟩, mIn _ _ _ _ _ _ (fun _ h => h) (hkX.less fun b hb' => (hKi b hb').2.1) hri⟩, (hkX.block _ (by show _ ≠ _; omega)).trans h.st, ⟨hkX.os.trans h.bel.os, hkX.tape.trans h.bel.tape, hkX.output.trans h.bel.output, by have := h.bel.size; omega, fun b hb' => (hkX.block b (by show b ≠ _; omega)).trans (h.bel.block b hb')⟩, by omega, h.own.kept mMg (hkX.less fun b hb' => by show b ≠ _; have : base ≤ b := hb'; omega)⟩⟩
/-- A list of messages that came new, behind those that were sent before. -/
theorem OncI.app {s : Strm} {bs : List (List (List Val))} {w W : World} {T5 T7 base a : Nat} {x : In_} {u : Value} {xs : List Mg} (h : OncI s bs w T5 T7 base a x u xs W) {q : Option Addr} {c : Nat} {ys : List Mg} {K2 : Nat → Prop} (hy : ListIs rMg 47 640 K2 W (.slice q ys.length c) ys) (hK2 : ∀ b, K2 b → base ≤ b ∧ b < W.heap.size ∧ u.ownBlock ≠ some b) (hl : xs.length + ys.length ≤ 4096) :
    ∃ v' X2, (Builtin.append_ #[40, 40] 40 #[u, .slice q ys.length c]).run Try.prog W = .ok v' X2 ∧ OncI s bs w T5 T7 base a x v' (xs ++ ys) X2 := by
  obtain ⟨i0, hj0, hj1, hj2, hj3⟩ := info65
  have hz := h.sz
  obtain ⟨v', X2, e2, ho2, hk, hv⟩ := OwnR.app mMg Try.underlying40 hj0 hj1 hj2 hj3 (by kernel_rfl) (by decide) h.own hz.2.2.2 hy (fun cs y hr u hu => by
    obtain ⟨qm, cm, ecl, _⟩ := mg_cells hr
    have := mgC_one 4 y.m y.s y.l qm y.r.length cm
    rw [← ecl] at this
    exact List.all_eq_true.1 (by simpa using this) u hu) hK2 (by omega) (by unfold maxLen; omega) 40
  have hown : ∀ g, u.ownBlock = some g → base ≤ g ∧ g < W.heap.size := h.own.block
  have nb : ∀ b, b < base → u.ownBlock ≠ some b := fun b hb e => by have := (hown b e).1; omega
  have hs := hk.size
  have hv2 : ∀ b, b < W.heap.size → u.ownBlock ≠ some b → v'.ownBlock ≠ some b := fun b hb hn e => by
    rcases hv with hv | hv
    · exact hn (hv ▸ e)
    · rw [hv] at e; cases e; omega
  obtain ⟨qo, co, Ko, g, hKo, hro⟩ := h.o
  obtain ⟨qi, ci, q2, c2, Ki, g', hKi, hri⟩ := h.i
  refine ⟨v', X2, e2, ⟨⟨qo, co, Ko, (hk.block _ ⟨by omega, nb _ (by omega)⟩).trans g, fun b hb' => ⟨by have := (hKo b hb').1; omega, (hKo b hb').2.1, (hKo b hb').2.2.1, hv2 b (hKo b hb').1 (hKo b hb').2.2.2⟩, mOut _ _ _ _ _ _ (fun _ h => h) (hk.less fun b hb' => ⟨(hKo b hb').1, (hKo b hb').2.2.2⟩) hro⟩, ⟨qi, ci, q2, c2, Ki, (hk.block _ ⟨by omega, nb _ (by omega)⟩).trans g', fun b hb' => ⟨by have := (hKi b hb').1; omega, (hKi b hb').2.1, (hKi b hb').2.2.1, hv2 b (hKi b hb').1 (hKi b hb').2.2.2⟩, mIn _ _ _ _ _ _ (fun _ h => h) (hk.less fun b hb' => ⟨(hKi b hb').1, (hKi b hb').2.2.2⟩) hri⟩, (hk.block _ ⟨by omega, nb _ (by omega)⟩).trans h.st, ⟨hk.os.trans h.bel.os, hk.tape.trans h.bel.tape, hk.output.trans h.bel.output, by have := h.bel.size; omega, fun b hb' => (hk.block b ⟨by have := h.bel.size; omega, nb _ (by omega)⟩).trans (h.bel.block b hb')⟩, by omega, ho2⟩⟩
end Go.Proofs.Ytnajchehdgagmaa
