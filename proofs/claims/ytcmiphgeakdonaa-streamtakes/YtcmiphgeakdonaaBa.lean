/- The batches of a stream are together its rows: the walk of StreamCuts. -/
import Derived.Test.YtcmiphgeakdonaaAz
namespace Go.Proofs.Ytcmiphgeakdonaa
open Go.Shelf Go.RowKit Go.Lib Go.Sort
set_option linter.unusedVariables false
set_option linter.unusedSimpArgs false
attribute [local go_sem ↓] Go.wp_at_zero Go.wp_at_succ
theorem OwnK.app2 {α : Type} {rel : Rel α} (hm : Mono rel) {size bytes : Nat} {ts te : TypeId} {i0 : TypeInfo} {z : Value} (hu : Try.prog.underlying ts = some (.slice te)) (hi : Try.prog.info? te = some i0) (hz : i0.zero = some z) (hs : i0.size = size) (hby : i0.bytes = bytes) (hzs : z.cells.size = size) (hs0 : 0 < size)
    {base : Nat} {X : World} {u : Value} {xs : List α} {K : Nat → Prop} (h : OwnK K rel size te base X u xs) (hbase : base ≤ X.heap.size) {q : Option Addr} {c : Nat} {ys : List α} (hy : ListIs rel size bytes K X (.slice q ys.length c) ys) (hone : ∀ cs y, rel K X cs y → ∀ u ∈ cs, u.oneCell' = true) (hK : ∀ b, K b → b < X.heap.size ∧ u.ownBlock ≠ some b)
    (hbytes : (xs.length + ys.length) * bytes ≤ 140737488355328) (hmax : xs.length + ys.length ≤ maxLen) (ty : TypeId) :
    ∃ v' X2, (Builtin.append_ #[ts, ts] ty #[u, .slice q ys.length c]).run Try.prog X = .ok v' X2 ∧ OwnK K rel size te base X2 v' (xs ++ ys) ∧ Kept (fun b => b < X.heap.size ∧ u.ownBlock ≠ some b) X X2 ∧ (v'.ownBlock = u.ownBlock ∨ v'.ownBlock = some X.heap.size) := by
  obtain ⟨cells, ho, hrr⟩ := h
  obtain ⟨q', c', e, _, hq⟩ := hy
  cases e
  have main : ∀ (a : Addr), q = some a → (∃ news : List Value, news.length = ys.length * size ∧ (∀ i u, news[i]? = some u → X.cell? (a.add i) = some u) ∧ ∀ j (hj : j < ys.length), rel K X ((news.drop (j * size)).take size) ys[j]) → ∃ v' X2, (Builtin.append_ #[ts, ts] ty #[u, .slice q ys.length c]).run Try.prog X = .ok v' X2 ∧ OwnK K rel size te base X2 v' (xs ++ ys) ∧ Kept (fun b => b < X.heap.size ∧ u.ownBlock ≠ some b) X X2 ∧ (v'.ownBlock = u.ownBlock ∨ v'.ownBlock = some X.heap.size) := by
    rintro a rfl ⟨news, n1, n2, n3⟩
    have hone2 : ∀ u ∈ news, u.oneCell' = true := by
      intro v hv
      obtain ⟨i, hi', rfl⟩ := List.getElem_of_mem hv
      have hdm := Nat.div_add_mod i size
      have hml := Nat.mod_lt i hs0
      have hjl : i / size < ys.length := (Nat.div_lt_iff_lt_mul hs0).2 (by omega)
      refine hone _ _ (n3 (i / size) hjl) _ ?_
      rw [List.mem_take_iff_getElem]
      have e1 : i / size * size + i % size = i := by rw [Nat.mul_comm]; exact hdm
      refine ⟨i % size, by rw [List.length_drop]; omega, ?_⟩
      rw [List.getElem_drop]
      congr 1
    obtain ⟨v', X2, e2, ho2, h5, _, h6⟩ := run_append_own_at (P := Try.prog) X base ts ty te i0 z size bytes hu hi hz hs hby hzs hs0 u xs.length cells ho a ys.length c news n1 n2 hone2 hmax hbytes hbase
    have hk : Kept (fun b => b < X.heap.size ∧ u.ownBlock ≠ some b) X X2 := ⟨h5.os, h5.tape, h5.output, h5.size, fun b hb => h5.block b hb.1 (fun e => hb.2 e.symm)⟩
    refine ⟨v', X2, e2, ⟨cells ++ news, by rw [List.length_append]; exact ho2, fun j hj => ?_⟩, hk, h6⟩
    · have hj2 : j < xs.length + ys.length := by simpa using hj
      by_cases hjn : j < xs.length
      · rw [part_be ho.1 hjn, List.getElem_append_left hjn]
        exact hm _ _ _ _ _ _ (fun _ h => h) (hk.less fun b h => hK b h) (hrr j hjn)
      · rw [part_in ho.1 n1 (by omega), List.getElem_append_right (by omega)]
        exact hm _ _ _ _ _ _ (fun _ h => h) (hk.less fun b h => hK b h) (n3 (j - xs.length) (by omega))
  by_cases h0 : 0 < ys.length
  · obtain ⟨b, o, rfl, hKb, hc⟩ := hq h0
    obtain ⟨news, n1, n2, n3⟩ := list_cells hc ys.length (Nat.le_refl _)
    exact main _ rfl ⟨news, n1, fun i u hu => by rw [addr_add]; exact n2 i u hu, fun j hj => n3 j hj hj⟩
  · have hnil : ys = [] := List.eq_nil_of_length_eq_zero (by omega)
    cases q with
    | some a => exact main a rfl ⟨[], by rw [hnil]; simp, fun i u hu => by simp at hu, fun j hj => by omega⟩
    | none =>
      subst hnil
      refine ⟨u, X, run_append_noneC base ts ty te i0 size c hu hi u xs.length cells ho, ?_, Kept.refl _ _, .inl rfl⟩
      rw [List.append_nil]
      exact ⟨cells, ho, hrr⟩
theorem OwnK.listU {α : Type} {K : Nat → Prop} {rel : Rel α} (hm : Mono rel) {size bytes : Nat} {te : TypeId} {base : Nat} {W : World} {u : Value} {xs : List α} (h : OwnK K rel size te base W u xs) (hb : xs.length * bytes ≤ 140737488355328) : ∃ p c, u = .slice p xs.length c ∧ ListIs rel size bytes (fun b => K b ∨ (base ≤ b ∧ b < W.heap.size)) W (.slice p xs.length c) xs := by
  obtain ⟨cells, ho, hr⟩ := h
  have hr2 : ∀ j (h : j < xs.length), rel (fun b => K b ∨ (base ≤ b ∧ b < W.heap.size)) W ((cells.drop (j * size)).take size) xs[j] := fun j hj => hm _ _ _ _ _ _ (fun b h => .inl h) ⟨rfl, rfl, rfl, Nat.le_refl _, fun _ _ => rfl⟩ (hr j hj)
  obtain ⟨hl, ⟨rfl, hn⟩ | ⟨g, cap, cur, rfl, hbg, hg, hnc, hcm, hcs, htake⟩⟩ := ho
  · exact ⟨none, 0, by rw [hn], none, 0, by rw [hn], ⟨hb, by omega⟩, fun h => by omega⟩
  · refine ⟨_, cap, rfl, _, cap, rfl, ⟨hb, hnc⟩, fun _ => ⟨g, 0, rfl, .inr ⟨hbg, (Array.getElem?_eq_some_iff.1 hg).1⟩, fun j hj => ⟨_, ?_, fun i u hu => ?_, hr2 j hj⟩⟩⟩
    · have h1 : j * size + size ≤ xs.length * size := by
        have := Nat.mul_le_mul_right size (show j + 1 ≤ xs.length by omega)
        rwa [Nat.add_mul, Nat.one_mul] at this
      rw [List.length_take, List.length_drop, hl]; omega
    · have hi : i < size := by
        have := (List.getElem?_eq_some_iff.1 hu).1
        rw [List.length_take] at this; omega
      rw [List.getElem?_take_of_lt hi, List.getElem?_drop, ← htake] at hu
      have hlt : j * size + i < xs.length * size := by
        have := Nat.mul_le_mul_right size (show j + 1 ≤ xs.length by omega)
        rw [Nat.add_mul, Nat.one_mul] at this; omega
      rw [List.getElem?_take_of_lt hlt] at hu
      rw [Nat.zero_add]
      exact cell_of_row hg (by simpa using hu)
theorem chunkP_ind {α : Type} {P : List α → Prop} (h1 : ∀ l, ¬ 8 < l.length → P l) (h2 : ∀ l, 8 < l.length → P (l.drop 8) → P l) : ∀ (n : Nat) (l : List α), l.length ≤ n → P l
  | 0, l, h => h1 l (by omega)
  | n + 1, l, h => by
    by_cases h8 : 8 < l.length
    · exact h2 l h8 (chunkP_ind h1 h2 n (l.drop 8) (by simp; omega))
    · exact h1 l h8
theorem chunkP_flat {α : Type} (l : List α) : (chunkP l).flatten = l := by
  refine chunkP_ind (P := fun l => (chunkP l).flatten = l) (fun l h => ?_) (fun l h ih => ?_) l.length l (Nat.le_refl _)
  · rw [chunkP_last h]; simp
  · rw [chunkP_more h, List.flatten_cons, ih, List.take_append_drop]
theorem chunkP_le {α : Type} (l : List α) : ∀ c ∈ chunkP l, c.length ≤ 8 := by
  refine chunkP_ind (P := fun l => ∀ c ∈ chunkP l, c.length ≤ 8) (fun l h => ?_) (fun l h ih => ?_) l.length l (Nat.le_refl _)
  · rw [chunkP_last h]; intro c hc; simp at hc; subst hc; omega
  · rw [chunkP_more h]; intro c hc
    rcases List.mem_cons.1 hc with rfl | hc
    · simp; omega
    · exact ih c hc
theorem chunkP_pos {α : Type} (l : List α) : 0 < (chunkP l).length := by
  by_cases h : 8 < l.length
  · rw [chunkP_more h]; simp
  · rw [chunkP_last h]; simp
theorem chunkP_num {α : Type} (l : List α) : (chunkP l).length = 1 ∨ ((chunkP l).length - 1) * 8 < l.length := by
  refine chunkP_ind (P := fun l => (chunkP l).length = 1 ∨ ((chunkP l).length - 1) * 8 < l.length) (fun l h => ?_) (fun l h ih => ?_) l.length l (Nat.le_refl _)
  · rw [chunkP_last h]; exact .inl rfl
  · right
    rw [chunkP_more h, List.length_cons]
    have hp := chunkP_pos (l.drop 8)
    rw [List.length_drop] at ih
    rcases ih with e | e <;> omega
theorem chunkP_full (l : List (List Val)) : ((chunkP l).take ((chunkP l).length - 1)).any notFull = false := by
  refine chunkP_ind (P := fun l => ((chunkP l).take ((chunkP l).length - 1)).any notFull = false) (fun l h => ?_) (fun l h ih => ?_) l.length l (Nat.le_refl _)
  · rw [chunkP_last h]; rfl
  · rw [chunkP_more h, List.length_cons, Nat.add_sub_cancel]
    have hp := chunkP_pos (l.drop 8)
    obtain ⟨m, hm⟩ : ∃ m, (chunkP (l.drop 8)).length = m + 1 := ⟨_, (Nat.sub_add_cancel hp).symm⟩
    rw [hm, Nat.add_sub_cancel] at ih
    rw [hm, List.take_succ_cons, List.any_cons, ih, Bool.or_false]
    have : (l.take 8).length = 8 := by simp; omega
    unfold notFull
    rw [this]; rfl
theorem chunkP_end (l : List (List Val)) : ∃ c, (chunkP l)[(chunkP l).length - 1]? = some c ∧ c.length ≤ 8 ∧ (0 < c.length ∨ ((chunkP l).length = 1 ∧ l.length = 0)) := by
  refine chunkP_ind (P := fun l => ∃ c, (chunkP l)[(chunkP l).length - 1]? = some c ∧ c.length ≤ 8 ∧ (0 < c.length ∨ ((chunkP l).length = 1 ∧ l.length = 0))) (fun l h => ?_) (fun l h ih => ?_) l.length l (Nat.le_refl _)
  · rw [chunkP_last h]
    exact ⟨l, rfl, by omega, by by_cases e : l.length = 0; exact .inr ⟨rfl, e⟩; exact .inl (by omega)⟩
  · obtain ⟨c, h1, h2, h3⟩ := ih
    have hp := chunkP_pos (l.drop 8)
    obtain ⟨m, hm⟩ : ∃ m, (chunkP (l.drop 8)).length = m + 1 := ⟨_, (Nat.sub_add_cancel hp).symm⟩
    rw [chunkP_more h, List.length_cons, Nat.add_sub_cancel, hm, List.getElem?_cons_succ]
    rw [hm, Nat.add_sub_cancel] at h1
    refine ⟨c, h1, h2, .inl ?_⟩
    rcases h3 with h3 | ⟨_, h3⟩
    · exact h3
    · rw [List.length_drop] at h3; omega
theorem outE_chunk (s : Strm) (l : List (List Val)) (h : l.length ≤ 4096) : outE ⟨s, chunkP l, 0⟩ = 0 := by
  have hp := chunkP_pos l
  have hn := chunkP_num l
  obtain ⟨c, h1, h2, h3⟩ := chunkP_end l
  unfold outE
  simp only []
  rw [if_neg (by omega), if_neg (by omega), if_neg (by omega), if_neg (by rw [chunkP_full]; simp), if_pos]
  rw [h1]
  unfold lastP
  rcases h3 with h3 | h3
  · simp [h2, h3]
  · simp [h2, h3.1]
theorem same_refl (s : Strm) : sameS s s = true := by unfold sameS; simp
theorem eql_same (s : Strm) (w : World) : (binOp .eql 26 (.agg #[.int .u64 (s.qb : Int), .int .u64 (s.qn : Int), .int .i64 s.at_, .int .i64 s.fr, .int .i64 s.tq]) (.agg #[.int .u64 (s.qb : Int), .int .u64 (s.qn : Int), .int .i64 s.at_, .int .i64 s.fr, .int .i64 s.tq])).run Try.prog w = .ok (.bool true) w := by
  have := eql_strm (s.qb : Int) (s.qn : Int) s.at_ s.fr s.tq (s.qb : Int) (s.qn : Int) s.at_ s.fr s.tq w
  simpa using this
end Go.Proofs.Ytcmiphgeakdonaa
