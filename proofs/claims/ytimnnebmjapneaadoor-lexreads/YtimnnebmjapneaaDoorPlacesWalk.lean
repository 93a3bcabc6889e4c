/- The law LexPlaces returns true. -/
import Derived.Test.YtimnnebmjapneaaDoorPp
import Derived.Deep.RegionHeld3
namespace Go.Proofs.YtimnnebmjapneaaDoor
open Go.RowKit Go.Lib Go.Sort
set_option linter.unusedVariables false
set_option linter.unusedSimpArgs false
attribute [local go_sem ↓] Go.wp_at_zero Go.wp_at_succ

theorem tok_neq (x y : Tok) (w : World) : (binOp .neq 24 x.v y.v).run Tryd.prog w = .ok (.bool (!sameTok x y)) w := by
  have h := tok_eql x y w
  obtain ⟨k, t, n, a⟩ := x
  obtain ⟨k', t', n', a'⟩ := y
  simp only [Tok.v, binOp, Sem.run_bind] at h ⊢
  generalize (Op.equal 24 (.agg #[.int .u8 k, .string ⟨t.toArray⟩, .int .i64 n, .int .i64 a]) (.agg #[.int .u8 k', .string ⟨t'.toArray⟩, .int .i64 n', .int .i64 a'])).run Tryd.prog w = r at h ⊢
  cases r <;> simp_all
theorem own_len {w w' : World} {v : Value} {ts : List Tok} (h : LexOut w w' v ts) : ts.length ≤ 9223372036854775807 := by
  obtain ⟨h1, ⟨_, h2⟩ | ⟨g, cap, cur, rfl, hb, hg, hc1, hc2, _⟩⟩ := h
  · omega
  · unfold maxLen at hc2; omega
theorem same_self (x : Tok) : sameTok x x = true := by simp [sameTok]
theorem take_snoc {ts r : List Tok} {n : Nat} {t : Tok} (h : ts = ts.take n ++ [t] ++ r) (hn : n ≤ ts.length) : ts.take (n + 1) = ts.take n ++ [t] ∧ n < ts.length ∧ ∀ hh : n < ts.length, ts[n] = t := by
  have hl : (ts.take n).length = n := by rw [List.length_take]; omega
  have hlen : n < ts.length := by
    have := congrArg List.length h
    simp only [List.length_append, List.length_cons, List.length_nil, hl] at this
    omega
  have hg : ts[n]? = some t := by
    rw [h, List.append_assoc, List.getElem?_append_right (by rw [hl]; omega), hl]
    simp
  have hg2 : ∀ hh : n < ts.length, ts[n] = t := fun hh => by
    rw [List.getElem?_eq_getElem hh] at hg
    exact Option.some.inj hg
  refine ⟨?_, hlen, hg2⟩
  rw [List.take_add_one, hg]
  rfl
theorem flat_at (ts : List Tok) (n : Nat) (h : n < ts.length) : (flatK ts)[n * 4]? = some (.int .u8 ts[n].k) ∧ (flatK ts)[n * 4 + 1]? = some (.string ⟨ts[n].t.toArray⟩) ∧ (flatK ts)[n * 4 + 2]? = some (.int .i64 ts[n].n) ∧ (flatK ts)[n * 4 + 3]? = some (.int .i64 ts[n].a) := by
  induction ts generalizing n with
  | nil => simp at h
  | cons x ts ih =>
    cases n with
    | zero => simp [flatK]
    | succ n =>
      have := ih n (by simpa using h)
      simp only [flatK, List.flatMap_cons] at this ⊢
      rw [show (n + 1) * 4 = n * 4 + 4 by omega, show n * 4 + 4 + 1 = (n * 4 + 1) + 4 by omega, show n * 4 + 4 + 2 = (n * 4 + 2) + 4 by omega, show n * 4 + 4 + 3 = (n * 4 + 3) + 4 by omega]
      simpa using this
end Go.Proofs.YtimnnebmjapneaaDoor
