/- What append makes of a row and one value more: a slice of one more, in new memory. -/
import Derived.Test.YtnfieaminhlmdaaDoorCkRow
import Derived.Deep.AppendLies
import Derived.Maps.AppendAt
import Derived.Deep.RegionHeld3
import Derived.Deep.DeepCutAuto
namespace Go.Proofs.YtnfieaminhlmdaaDoor
open Go.RowKit Go.Lib Go.Sort
set_option linter.unusedVariables false
attribute [local go_sem ↓] Go.wp_at_zero Go.wp_at_succ

/-- The cells of a row's values, in order. -/
def flat (xs : List Val) : List Value := xs.flatMap fun x => [.int .u8 x.k, .bool x.b, .int .i64 x.n, .string x.s]
theorem flat_length : ∀ xs : List Val, (flat xs).length = xs.length * 4
  | [] => rfl
  | x :: xs => by
    have := flat_length xs
    simp only [flat, List.flatMap_cons, List.length_append, List.length_cons, List.length_nil] at this ⊢
    omega
theorem flat_one (xs : List Val) : ∀ u ∈ flat xs, u.oneCell' = true := by
  intro u hu
  simp only [flat, List.mem_flatMap] at hu
  obtain ⟨x, _, hu⟩ := hu
  simp only [List.mem_cons, List.not_mem_nil, or_false] at hu
  rcases hu with rfl | rfl | rfl | rfl <;> rfl
theorem flat_cells {w : World} {blk : Nat} : ∀ (xs : List Val) (off : Nat), RowIs w blk off xs → ∀ j u, (flat xs)[j]? = some u → w.cell? ⟨blk, off + j, none⟩ = some u
  | [], _, _, j, u, hu => by simp [flat] at hu
  | x :: xs, off, h, j, u, hu => by
    have ih := flat_cells (w := w) (blk := blk) xs (off + 4) (fun i hi => by
      have := h (i + 1) (by simp; omega)
      rw [show off + (i + 1) * 4 = off + 4 + i * 4 by omega] at this
      simpa using this)
    have h0 := h 0 (by simp)
    simp only [Nat.zero_mul, Nat.add_zero, List.getElem_cons_zero] at h0
    match j with
    | 0 => simp [flat] at hu; subst hu; exact h0.1
    | 1 => simp [flat] at hu; subst hu; exact h0.2.1
    | 2 => simp [flat] at hu; subst hu; exact h0.2.2.1
    | 3 => simp [flat] at hu; subst hu; exact h0.2.2.2
    | j + 4 =>
      have := ih j u (by simpa [flat] using hu)
      rw [show off + (j + 4) = off + 4 + j by omega]
      exact this
theorem flat_add {w : World} {blk off : Nat} {xs : List Val} (h : RowIs w blk off xs) : ∀ j u, (flat xs)[j]? = some u → w.cell? ((⟨blk, off, none⟩ : Addr).add j) = some u := fun j u hu => by
  have hadd : (⟨blk, off, none⟩ : Addr).add j = ⟨blk, off + j, none⟩ := by unfold Addr.add; split <;> simp_all
  rw [hadd]
  exact flat_cells xs off h j u hu

/-- A row's cells, whatever its slice is. -/
def RowC (w : World) (p : Option Addr) (xs : List Val) : Prop :=
  (p = none ∧ xs = []) ∨ ∃ ad, p = some ad ∧ ∀ j u, (flat xs)[j]? = some u → w.cell? (ad.add j) = some u ∧ ad.block < w.heap.size
/-- A slice of n values that lies in memory that was made behind w1. -/
def Own (w1 W : World) (v : Value) (n : Nat) : Prop := ∃ ys, W.ownsRow w1.heap.size 30 4 v n ys
theorem info30 : ∃ i0, Tryd.prog.info? 30 = some i0 ∧ i0.zero = some (.agg #[.int .u8 0, .bool false, .int .i64 0, .string ⟨#[]⟩]) ∧ i0.size = 4 ∧ i0.bytes = 32 := by
  have h1 : (Tryd.prog.info? 30).bind (·.zero) = some (.agg #[.int .u8 0, .bool false, .int .i64 0, .string ⟨#[]⟩]) := by kernel_rfl
  have h2 : (Tryd.prog.info? 30).map (·.size) = some 4 := by kernel_rfl
  have h3 : (Tryd.prog.info? 30).map (·.bytes) = some 32 := by kernel_rfl
  generalize Tryd.prog.info? 30 = i at *
  cases i with
  | none => cases h1
  | some i => exact ⟨i, rfl, h1, Option.some.inj h2, Option.some.inj h3⟩
theorem below_grown {w1 W W' : World} {k : Nat} (hB : Below w1.heap.size w1 W) (hg : W.grownBy W' (some k)) (hk : w1.heap.size ≤ k) : Below w1.heap.size w1 W' :=
  ⟨hg.os.trans hB.os, hg.tape.trans hB.tape, hg.output.trans hB.output, Nat.le_trans hB.size hg.size,
    fun i hi => (hg.block i (Nat.lt_of_lt_of_le hi hB.size) (by simp; omega)).trans (hB.block i hi)⟩
theorem run_first (W w1 : World) (ty : TypeId) (g c : Nat) (p : Option Addr) (xs : List Val) (hg : W.heap[g]? = some (.cells #[] 30)) (hg1 : w1.heap.size ≤ g) (hB : Below w1.heap.size w1 W) (hr : RowC w1 p xs) (hby : xs.length * 32 ≤ 140737488355328) :
    ∃ v' W', (Builtin.append_ #[38, 38] ty #[.slice (some ⟨g, 0, none⟩) 0 0, .slice p xs.length c]).run Tryd.prog W = .ok v' W' ∧ Own w1 W' v' xs.length ∧
      (∀ k, k < W.heap.size → k ≠ g → W'.heap[k]? = W.heap[k]?) ∧ W.heap.size ≤ W'.heap.size ∧ Below w1.heap.size w1 W' := by
  obtain ⟨i0, hi, hz0, hz1, hz2⟩ := info30
  have hown : W.ownsRow w1.heap.size 30 4 (.slice (some ⟨g, 0, none⟩) 0 0) 0 [] := ⟨rfl, .inr ⟨g, 0, #[], rfl, hg1, hg, Nat.le_refl _, Nat.zero_le _, rfl, rfl⟩⟩
  rcases hr with ⟨rfl, rfl⟩ | ⟨ad, rfl, hc⟩
  · refine ⟨.slice (some ⟨g, 0, none⟩) 0 0, W, ?_, ⟨_, hown⟩, fun _ _ _ => rfl, Nat.le_refl _, hB⟩
    simp [Builtin.append_, run_underlying Tryd.underlying38, sizeOf, typeInfo, hi, Builtin.lenOf, Builtin.firstCells, loadCells, loadCellsFrom, storeCells]
  · obtain ⟨v', W', e, h2, h3, _, h5⟩ := run_append_own_at (P := Tryd.prog) W w1.heap.size 38 ty 30 i0 _ 4 32 Tryd.underlying38 hi hz0 hz1 hz2 rfl (by omega) _ 0 [] hown ad xs.length c (flat xs) (flat_length xs)
      (fun j u hu => by rw [hB.cell (by unfold Addr.add; split <;> exact (hc j u hu).2)]; exact (hc j u hu).1) (flat_one xs) (by unfold maxLen; omega) (by omega) hB.size
    rw [Nat.zero_add] at h2
    exact ⟨v', W', e, ⟨_, h2⟩, fun k hk hne => h3.block k hk (by simp [Value.ownBlock]; omega), h3.size, below_grown hB h3 hg1⟩
theorem step_first {ops : Array Oper} {o : Oper} {a : Act} {K : Act → World → Prop} {Q : Exit → Act → World → Prop} {E : Prop} (W w1 : World) (hgd : o.guard = none) (s x : Operand)
    (ho : o.op = .call { callee := .builtin .append, args := #[s, x], argTypes := #[38, 38] }) (g c : Nat) (p : Option Addr) (xs : List Val)
    (hs : a.eval s = .slice (some ⟨g, 0, none⟩) 0 0) (hx : a.eval x = .slice p xs.length c) (hg : W.heap[g]? = some (.cells #[] 30)) (hg1 : w1.heap.size ≤ g) (hB : Below w1.heap.size w1 W) (hr : RowC w1 p xs) (hby : xs.length * 32 ≤ 140737488355328)
    (h : ∀ v' W', Own w1 W' v' xs.length → (∀ k, k < W.heap.size → k ≠ g → W'.heap[k]? = W.heap[k]?) → W.heap.size ≤ W'.heap.size → Below w1.heap.size w1 W' → K (a.put o.dst v') W') :
    if Region.wanted o (yielded ops a.tmps) = true then Oper.wp Tryd.prog o a W K Q else E := by
  have hw : Region.wanted o (yielded ops a.tmps) = true := by simp [Region.wanted, hgd]
  rw [if_pos hw]
  obtain ⟨v', W', hr', h1, h2, h3, h4⟩ := run_first W w1 o.type g c p xs hg hg1 hB hr hby
  unfold Oper.wp execOp
  simp only [ho, resolve, invoke, builtin, Sem.run_bind, Sem.run_pure, Result.andThen_ok, List.map_toArray, List.map_cons, List.map_nil, hs, hx, hr']
  exact h v' W' h1 h2 h3 h4
theorem step_last {ops : Array Oper} {o : Oper} {a : Act} {K : Act → World → Prop} {Q : Exit → Act → World → Prop} {E : Prop} (W w1 : World) (hgd : o.guard = none) (s x : Operand)
    (ho : o.op = .call { callee := .builtin .append, args := #[s, x], argTypes := #[38, 38] }) (v : Value) (n gS c : Nat) (vk : Int) (vb : Bool) (vn : Int) (vs : ByteArray)
    (hs : a.eval s = v) (hown : Own w1 W v n) (hx : a.eval x = .slice (some ⟨gS, 0, none⟩) 1 c) (hS : W.heap[gS]? = some (.cells #[.int .u8 vk, .bool vb, .int .i64 vn, .string vs] 30)) (hB : Below w1.heap.size w1 W) (hby : (n + 1) * 32 ≤ 140737488355328)
    (h : ∀ p cap W', Below w1.heap.size w1 W' → K (a.put o.dst (.slice p (n + 1) cap)) W') :
    if Region.wanted o (yielded ops a.tmps) = true then Oper.wp Tryd.prog o a W K Q else E := by
  have hw : Region.wanted o (yielded ops a.tmps) = true := by simp [Region.wanted, hgd]
  rw [if_pos hw]
  obtain ⟨i0, hi, hz0, hz1, hz2⟩ := info30
  obtain ⟨ys, hown⟩ := hown
  obtain ⟨v', W', e, h2, h3, _, h5⟩ := run_append_own_at (P := Tryd.prog) W w1.heap.size 38 o.type 30 i0 _ 4 32 Tryd.underlying38 hi hz0 hz1 hz2 rfl (by omega) v n ys hown ⟨gS, 0, none⟩ 1 c [.int .u8 vk, .bool vb, .int .i64 vn, .string vs] rfl
    (World.news_of_block hS) (by intro u hu; simp only [List.mem_cons, List.not_mem_nil, or_false] at hu; rcases hu with rfl | rfl | rfl | rfl <;> rfl) (by unfold maxLen; omega) hby hB.size
  obtain ⟨g, cap, rfl, _, _⟩ := h2.form (by omega)
  have hB' : Below w1.heap.size w1 W' := by
    cases hob : v.ownBlock with
    | none => rw [hob] at h3; exact ⟨h3.os.trans hB.os, h3.tape.trans hB.tape, h3.output.trans hB.output, Nat.le_trans hB.size h3.size, fun i hi => (h3.block i (Nat.lt_of_lt_of_le hi hB.size) (by simp)).trans (hB.block i hi)⟩
    | some k => rw [hob] at h3; exact below_grown hB h3 (hown.lt k hob).1
  unfold Oper.wp execOp
  simp only [ho, resolve, invoke, builtin, Sem.run_bind, Sem.run_pure, Result.andThen_ok, List.map_toArray, List.map_cons, List.map_nil, hs, hx, e]
  exact h _ _ _ hB'
theorem own_later {w1 W W' : World} {v : Value} {n : Nat} (h : Own w1 W v n) (hb : Below W.heap.size W W') : Own w1 W' v n := by
  obtain ⟨ys, hl, hn | ⟨g, cap, cur, rfl, h1, hg, rest⟩⟩ := h
  · exact ⟨ys, hl, .inl hn⟩
  · exact ⟨ys, hl, .inr ⟨g, cap, cur, rfl, h1, by rw [hb.block g (Array.getElem?_eq_some_iff.1 hg).1]; exact hg, rest⟩⟩
end Go.Proofs.YtnfieaminhlmdaaDoor
