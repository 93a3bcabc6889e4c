/- A list behind another one that is one's own. -/
import Derived.Test.YtcmiphgeakdonaaAq
namespace Go.Proofs.Ytcmiphgeakdonaa
open Go.Shelf Go.RowKit Go.Lib Go.Sort
set_option linter.unusedVariables false
set_option linter.unusedSimpArgs false
attribute [local go_sem ↓] Go.wp_at_zero Go.wp_at_succ
theorem run_append_noneC {w : World} (base : Nat) (t ty e : TypeId) (i : TypeInfo) (size c : Nat) (ht : Try.prog.underlying t = some (.slice e)) (hi : Try.prog.info? e = some i)
    (v : Value) (n : Nat) (xs : List Value) (hown : w.ownsRow base e size v n xs) :
    (Builtin.append_ #[t, t] ty #[v, .slice none 0 c]).run Try.prog w = .ok v w := by
  rcases hown.2 with ⟨rfl, rfl⟩ | ⟨g, cap, cur, rfl, _, _, hnc, _⟩
  · simp [Builtin.append_, run_underlying ht, sizeOf, typeInfo, hi, Builtin.lenOf, Builtin.firstCells]
  · simp [Builtin.append_, run_underlying ht, sizeOf, typeInfo, hi, Builtin.lenOf, Builtin.firstCells, hnc, storeCells]
theorem list_cells {α : Type} {rel : Rel α} {size : Nat} {K : Nat → Prop} {W : World} {b o : Nat} {ys : List α} (h : ∀ j (h : j < ys.length), ∃ cs, cs.length = size ∧ (∀ i u, cs[i]? = some u → W.cell? ⟨b, o + j * size + i, none⟩ = some u) ∧ rel K W cs ys[j]) :
    ∀ m, m ≤ ys.length → ∃ news : List Value, news.length = m * size ∧ (∀ i u, news[i]? = some u → W.cell? ⟨b, o + i, none⟩ = some u) ∧ ∀ j (hj : j < m) (hj' : j < ys.length), rel K W ((news.drop (j * size)).take size) ys[j]
  | 0, _ => ⟨[], by simp, fun i u hu => by simp at hu, fun j hj => by omega⟩
  | m + 1, hm => by
    obtain ⟨news, h1, h2, h3⟩ := list_cells h m (by omega)
    obtain ⟨cs, k1, k2, k3⟩ := h m (by omega)
    refine ⟨news ++ cs, by rw [List.length_append, h1, k1, Nat.add_mul, Nat.one_mul], fun i u hu => ?_, fun j hj hj' => ?_⟩
    · by_cases hi : i < news.length
      · rw [List.getElem?_append_left hi] at hu
        exact h2 i u hu
      · rw [List.getElem?_append_right (by omega)] at hu
        have := k2 _ u hu
        rwa [show o + m * size + (i - news.length) = o + i by omega] at this
    · by_cases hjm : j < m
      · rw [part_of h1 k1 hjm]
        exact h3 j hjm hj'
      · have e : j = m := by omega
        subst e
        rw [List.drop_append_of_le_length (by omega), List.drop_of_length_le (by omega), List.nil_append, List.take_of_length_le (by omega)]
        exact k3
theorem part_in {cells news : List Value} {size n m j : Nat} (hl : cells.length = n * size) (hl2 : news.length = m * size) (hj : n ≤ j) : ((cells ++ news).drop (j * size)).take size = (news.drop ((j - n) * size)).take size := by
  have : n * size ≤ j * size := Nat.mul_le_mul_right size hj
  rw [List.drop_append, List.drop_of_length_le (by omega), List.nil_append, hl, Nat.sub_mul]
theorem part_be {cells news : List Value} {size n j : Nat} (hl : cells.length = n * size) (hj : j < n) : ((cells ++ news).drop (j * size)).take size = (cells.drop (j * size)).take size := by
  have : (j + 1) * size ≤ n * size := Nat.mul_le_mul_right size hj
  rw [Nat.add_mul, Nat.one_mul] at this
  rw [List.drop_append_of_le_length (by omega), List.take_append_of_le_length (by rw [List.length_drop]; omega)]
/-- A list behind one that is one's own. -/
theorem OwnR.app {α : Type} {rel : Rel α} (hm : Mono rel) {size bytes : Nat} {ts te : TypeId} {i0 : TypeInfo} {z : Value} (hu : Try.prog.underlying ts = some (.slice te)) (hi : Try.prog.info? te = some i0) (hz : i0.zero = some z) (hs : i0.size = size) (hby : i0.bytes = bytes) (hzs : z.cells.size = size) (hs0 : 0 < size)
    {base : Nat} {X : World} {u : Value} {xs : List α} (h : OwnR rel size te base X u xs) (hbase : base ≤ X.heap.size) {q : Option Addr} {c : Nat} {ys : List α} {K2 : Nat → Prop} (hy : ListIs rel size bytes K2 X (.slice q ys.length c) ys) (hone : ∀ cs y, rel K2 X cs y → ∀ u ∈ cs, u.oneCell' = true) (hK2 : ∀ b, K2 b → base ≤ b ∧ b < X.heap.size ∧ u.ownBlock ≠ some b)
    (hbytes : (xs.length + ys.length) * bytes ≤ 140737488355328) (hmax : xs.length + ys.length ≤ maxLen) (ty : TypeId) :
    ∃ v' X2, (Builtin.append_ #[ts, ts] ty #[u, .slice q ys.length c]).run Try.prog X = .ok v' X2 ∧ OwnR rel size te base X2 v' (xs ++ ys) ∧ Kept (fun b => b < X.heap.size ∧ u.ownBlock ≠ some b) X X2 ∧ (v'.ownBlock = u.ownBlock ∨ v'.ownBlock = some X.heap.size) := by
  obtain ⟨K, cells, hK, ho, hrr⟩ := h
  obtain ⟨q', c', e, _, hq⟩ := hy
  cases e
  have main : ∀ (a : Addr), q = some a → (∃ news : List Value, news.length = ys.length * size ∧ (∀ i u, news[i]? = some u → X.cell? (a.add i) = some u) ∧ ∀ j (hj : j < ys.length), rel K2 X ((news.drop (j * size)).take size) ys[j]) → ∃ v' X2, (Builtin.append_ #[ts, ts] ty #[u, .slice q ys.length c]).run Try.prog X = .ok v' X2 ∧ OwnR rel size te base X2 v' (xs ++ ys) ∧ Kept (fun b => b < X.heap.size ∧ u.ownBlock ≠ some b) X X2 ∧ (v'.ownBlock = u.ownBlock ∨ v'.ownBlock = some X.heap.size) := by
    rintro a rfl ⟨news, n1, n2, n3⟩
    have hone2 : ∀ u ∈ news, u.oneCell' = true := by
      intro v hv
      obtain ⟨i, hi', rfl⟩ := List.getElem_of_mem hv
      have hdm := Nat.div_add_mod i size
      have hml := Nat.mod_lt i hs0
      have hjl : i / size < ys.length := (Nat.div_lt_iff_lt_mul hs0).2 (by omega)
      refine hone _ _ (n3 (i / size) hjl) _ ?_
      rw [List.mem_take_iff_getElem]
      have e1 : i / size * size + i % size = i := by rw [Nat.mul_comm]; exact hdm
      refine ⟨i % size, by rw [List.length_drop]; omega, ?_⟩
      rw [List.getElem_drop]
      congr 1
    obtain ⟨v', X2, e2, ho2, h5, _, h6⟩ := run_append_own_at (P := Try.prog) X base ts ty te i0 z size bytes hu hi hz hs hby hzs hs0 u xs.length cells ho a ys.length c news n1 n2 hone2 hmax hbytes hbase
    have hk : Kept (fun b => b < X.heap.size ∧ u.ownBlock ≠ some b) X X2 := ⟨h5.os, h5.tape, h5.output, h5.size, fun b hb => h5.block b hb.1 (fun e => hb.2 e.symm)⟩
    refine ⟨v', X2, e2, ⟨fun b => K b ∨ K2 b, cells ++ news, fun b hb => ?_, by rw [List.length_append]; exact ho2, fun j hj => ?_⟩, hk, h6⟩
    · have h3 : base ≤ b ∧ b < X.heap.size ∧ u.ownBlock ≠ some b := hb.elim (hK b) (hK2 b)
      refine ⟨h3.1, Nat.lt_of_lt_of_le h3.2.1 h5.size, fun e => ?_⟩
      rcases h6 with h6 | h6
      · rw [h6] at e; exact h3.2.2 e
      · rw [h6] at e; simp only [Option.some.injEq] at e; omega
    · have hj2 : j < xs.length + ys.length := by simpa using hj
      by_cases hjn : j < xs.length
      · rw [part_be ho.1 hjn, List.getElem_append_left hjn]
        exact hm _ _ _ _ _ _ (fun _ h => .inl h) (hk.less fun b h => ⟨(hK b h).2.1, (hK b h).2.2⟩) (hrr j hjn)
      · rw [part_in ho.1 n1 (by omega), List.getElem_append_right (by omega)]
        exact hm _ _ _ _ _ _ (fun _ h => .inr h) (hk.less fun b h => ⟨(hK2 b h).2.1, (hK2 b h).2.2⟩) (n3 (j - xs.length) (by omega))
  by_cases h0 : 0 < ys.length
  · obtain ⟨b, o, rfl, hKb, hc⟩ := hq h0
    obtain ⟨news, n1, n2, n3⟩ := list_cells hc ys.length (Nat.le_refl _)
    exact main _ rfl ⟨news, n1, fun i u hu => by rw [addr_add]; exact n2 i u hu, fun j hj => n3 j hj hj⟩
  · have hnil : ys = [] := List.eq_nil_of_length_eq_zero (by omega)
    cases q with
    | some a => exact main a rfl ⟨[], by rw [hnil]; simp, fun i u hu => by simp at hu, fun j hj => by omega⟩
    | none =>
      subst hnil
      refine ⟨u, X, run_append_noneC base ts ty te i0 size c hu hi u xs.length cells ho, ?_, Kept.refl _ _, .inl rfl⟩
      rw [List.append_nil]
      exact ⟨K, cells, hK, ho, hrr⟩
theorem row_one {K : Nat → Prop} {W : World} (cs : List Value) (y : List Val) (h : rRow K W cs y) : ∀ u ∈ cs, u.oneCell' = true := by
  obtain ⟨v, rfl, hl⟩ := h
  obtain ⟨q, c, rfl, _⟩ := hl
  intro u hu
  simp only [List.mem_cons, List.not_mem_nil, or_false] at hu
  rw [hu]; rfl
end Go.Proofs.Ytcmiphgeakdonaa
