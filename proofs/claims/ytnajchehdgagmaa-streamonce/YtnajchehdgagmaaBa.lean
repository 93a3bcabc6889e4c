/- The batches of a stream are together its rows: the walk of StreamCuts. -/
import Derived.Test.YtnajchehdgagmaaAz
namespace Go.Proofs.Ytnajchehdgagmaa
open Go.Shelf Go.RowKit Go.Lib Go.Sort
set_option linter.unusedVariables false
set_option linter.unusedSimpArgs false
attribute [local go_sem ↓] Go.wp_at_zero Go.wp_at_succ
theorem OwnK.app2 {α : Type} {rel : Rel α} (hm : Mono rel) {size bytes : Nat} {ts te : TypeId} {i0 : TypeInfo} {z : Value} (hu : Try.prog.underlying ts = some (.slice te)) (hi : Try.prog.info? te = some i0) (hz : i0.zero = some z) (hs : i0.size = size) (hby : i0.bytes = bytes) (hzs : z.cells.size = size) (hs0 : 0 < size)
    {base : Nat} {X : World} {u : Value} {xs : List α} {K : Nat → Prop} (h : OwnK K rel size te base X u xs) (hbase : base ≤ X.heap.size) {q : Option Addr} {c : Nat} {ys : List α} (hy : ListIs rel size bytes K X (.slice q ys.length c) ys) (hone : ∀ cs y, rel K X cs y → ∀ u ∈ cs, u.oneCell' = true) (hK : ∀ b, K b → b < X.heap.size ∧ u.ownBlock ≠ some b)
    (hbytes : (xs.length + ys.length) * bytes ≤ 140737488355328) (hmax : xs.length + ys.length ≤ maxLen) (ty : TypeId) :
    ∃ v' X2, (Builtin.append_ #[ts, ts] ty #[u, .slice q ys.length c]).run Try.prog X = .ok v' X2 ∧ OwnK K rel size te base X2 v' (xs ++ ys) ∧ Kept (fun b => b < X.heap.size ∧ u.ownBlock ≠ some b) X X2 ∧ (v'.ownBlock = u.ownBlock ∨ v'.ownBlock = some X.heap.size) := by
  obtain ⟨cells, ho, hrr⟩ := h
  obtain ⟨q', c', e, _, hq⟩ := hy
  cases e
  have main : ∀ (a : Addr), q = some a → (∃ news : List Value, news.length = ys.length * size ∧ (∀ i u, news[i]? = some u → X.cell? (a.add i) = some u) ∧ ∀ j (hj : j < ys.length), rel K X ((news.drop (j * size)).take size) ys[j]) → ∃ v' X2, (Builtin.append_ #[ts, ts] ty #[u, .slice q ys.length c]).run Try.prog X = .ok v' X2 ∧ OwnK K rel size te base X2 v' (xs ++ ys) ∧ Kept (fun b => b < X.heap.size ∧ u.ownBlock ≠ some b) X X2 ∧ (v'.ownBlock = u.ownBlock ∨ v'.ownBlock = some X.heap.size) := by
    rintro a rfl ⟨news, n1, n2, n3⟩
    have hone2 : ∀ u ∈ news, u.oneCell' = true := by
      intro v hv
      obtain ⟨i, hi', rfl⟩ := List.getElem_of_mem hv
      have hdm := Nat.div_add_mod i size
      have hml := Nat.mod_lt i hs0
      have hjl : i / size < ys.length := (Nat.div_lt_iff_lt_mul hs0).2 (by omega)
      refine hone _ _ (n3 (i / size) hjl) _ ?_
      rw [List.mem_take_iff_getElem]
      have e1 : i / size * size + i % size = i := by rw [Nat.mul_comm]; exact hdm
      refine ⟨i % size, by rw [List.length_drop]; omega, ?_⟩
      rw [List.getElem_drop]
      congr 1
    obtain ⟨v', X2, e2, ho2, h5, _, h6⟩ := run_append_own_at (P := Try.prog) X base ts ty te i0 z size bytes hu hi hz hs hby hzs hs0 u xs.length cells ho a ys.length c news n1 n2 hone2 hmax hbytes hbase
    have hk : Kept (fun b => b < X.heap.size ∧ u.ownBlock ≠ some b) X X2 := ⟨h5.os, h5.tape, h5.output, h5.size, fun b hb => h5.block b hb.1 (fun e => hb.2 e.symm)⟩
    refine ⟨v', X2, e2, ⟨cells ++ news, by rw [List.length_append]; exact ho2, fun j hj => ?_⟩, hk, h6⟩
    · have hj2 : j < xs.length + ys.length := by simpa using hj
      by_cases hjn : j < xs.length
      · rw [part_be ho.1 hjn, List.getElem_append_left hjn]
        exact hm _ _ _ _ _ _ (fun _ h => h) (hk.less fun b h => hK b h) (hrr j hjn)
      · rw [part_in ho.1 n1 (by omega), List.getElem_append_right (by omega)]
        exact hm _ _ _ _ _ _ (fun _ h => h) (hk.less fun b h => hK b h) (n3 (j - xs.length) (by omega))
  by_cases h0 : 0 < ys.length
  · obtain ⟨b, o, rfl, hKb, hc⟩ := hq h0
    obtain ⟨news, n1, n2, n3⟩ := list_cells hc ys.length (Nat.le_refl _)
    exact main _ rfl ⟨news, n1, fun i u hu => by rw [addr_add]; exact n2 i u hu, fun j hj => n3 j hj hj⟩
  · have hnil : ys = [] := List.eq_nil_of_length_eq_zero (by omega)
    cases q with
    | some a => exact main a rfl ⟨[], by rw [hnil]; simp, fun i u hu => by simp at hu, fun j hj => by omega⟩
    | none =>
      subst hnil
      refine ⟨u, X, run_append_noneC base ts ty te i0 size c hu hi u xs.length cells ho, ?_, Kept.refl _ _, .inl rfl⟩
      rw [List.append_nil]
      exact ⟨cells, ho, hrr⟩
theorem OwnK.listU {α : Type} {K : Nat → Prop} {rel : Rel α} (hm : Mono rel) {size bytes : Nat} {te : TypeId} {base : Nat} {W : World} {u : Value} {xs : List α} (h : OwnK K rel size te base W u xs) (hb : xs.length * bytes ≤ 140737488355328) : ∃ p c, u = .slice p xs.length c ∧ ListIs rel size bytes (fun b => K b ∨ (base ≤ b ∧ b < W.heap.size)) W (.slice p xs.length c) xs := by
  obtain ⟨cells, ho, hr⟩ := h
  have hr2 : ∀ j (h : j < xs.length), rel (fun b => K b ∨ (base ≤ b ∧ b < W.heap.size)) W ((cells.drop (j * size)).take size) xs[j] := fun j hj => hm _ _ _ _ _ _ (fun b h => .inl h) ⟨rfl, rfl, rfl, Nat.le_refl _, fun _ _ => rfl⟩ (hr j hj)
  obtain ⟨hl, ⟨rfl, hn⟩ | ⟨g, cap, cur, rfl, hbg, hg, hnc, hcm, hcs, htake⟩⟩ := ho
  · exact ⟨none, 0, by rw [hn], none, 0, by rw [hn], ⟨hb, by omega⟩, fun h => by omega⟩
  · refine ⟨_, cap, rfl, _, cap, rfl, ⟨hb, hnc⟩, fun _ => ⟨g, 0, rfl, .inr ⟨hbg, (Array.getElem?_eq_some_iff.1 hg).1⟩, fun j hj => ⟨_, ?_, fun i u hu => ?_, hr2 j hj⟩⟩⟩
    · have h1 : j * size + size ≤ xs.length * size := by
        have := Nat.mul_le_mul_right size (show j + 1 ≤ xs.length by omega)
        rwa [Nat.add_mul, Nat.one_mul] at this
      rw [List.length_take, List.length_drop, hl]; omega
    · have hi : i < size := by
        have := (List.getElem?_eq_some_iff.1 hu).1
        rw [List.length_take] at this; omega
      rw [List.getElem?_take_of_lt hi, List.getElem?_drop, ← htake] at hu
      have hlt : j * size + i < xs.length * size := by
        have := Nat.mul_le_mul_right size (show j + 1 ≤ xs.length by omega)
        rw [Nat.add_mul, Nat.one_mul] at this; omega
      rw [List.getElem?_take_of_lt hlt] at hu
      rw [Nat.zero_add]
      exact cell_of_row hg (by simpa using hu)
theorem chunkP_ind {α : Type} {P : List α → Prop} (h1 : ∀ l, ¬ 8 < l.length → P l) (h2 : ∀ l, 8 < l.length → P (l.drop 8) → P l) : ∀ (n : Nat) (l : List α), l.length ≤ n → P l
  | 0, l, h => h1 l (by omega)
  | n + 1, l, h => by
    by_cases h8 : 8 < l.length
    · exact h2 l h8 (chunkP_ind h1 h2 n (l.drop 8) (by simp; omega))
    · exact h1 l h8
theorem chunkP_flat {α : Type} (l : List α) : (chunkP l).flatten = l := by
  refine chunkP_ind (P := fun l => (chunkP l).flatten = l) (fun l h => ?_) (fun l h ih => ?_) l.length l (Nat.le_refl _)
  · rw [chunkP_last h]; simp
  · rw [chunkP_more h, List.flatten_cons, ih, List.take_append_drop]
theorem chunkP_le {α : Type} (l : List α) : ∀ c ∈ chunkP l, c.length ≤ 8 := by
  refine chunkP_ind (P := fun l => ∀ c ∈ chunkP l, c.length ≤ 8) (fun l h => ?_) (fun l h ih => ?_) l.length l (Nat.le_refl _)
  · rw [chunkP_last h]; intro c hc; simp at hc; subst hc; omega
  · rw [chunkP_more h]; intro c hc
    rcases List.mem_cons.1 hc with rfl | hc
    · simp; omega
    · exact ih c hc
theorem chunkP_pos {α : Type} (l : List α) : 0 < (chunkP l).length := by
  by_cases h : 8 < l.length
  · rw [chunkP_more h]; simp
  · rw [chunkP_last h]; simp
theorem chunkP_num {α : Type} (l : List α) : (chunkP l).length = 1 ∨ ((chunkP l).length - 1) * 8 < l.length := by
  refine chunkP_ind (P := fun l => (chunkP l).length = 1 ∨ ((chunkP l).length - 1) * 8 < l.length) (fun l h => ?_) (fun l h ih => ?_) l.length l (Nat.le_refl _)
  · rw [chunkP_last h]; exact .inl rfl
  · right
    rw [chunkP_more h, List.length_cons]
    have hp := chunkP_pos (l.drop 8)
    rw [List.length_drop] at ih
    rcases ih with e | e <;> omega
theorem chunkP_full (l : List (List Val)) : ((chunkP l).take ((chunkP l).length - 1)).any notFull = false := by
  refine chunkP_ind (P := fun l => ((chunkP l).take ((chunkP l).length - 1)).any notFull = false) (fun l h => ?_) (fun l h ih => ?_) l.length l (Nat.le_refl _)
  · rw [chunkP_last h]; rfl
  · rw [chunkP_more h, List.length_cons, Nat.add_sub_cancel]
    have hp := chunkP_pos (l.drop 8)
    obtain ⟨m, hm⟩ : ∃ m, (chunkP (l.drop 8)).length = m + 1 := ⟨_, (Nat.sub_add_cancel hp).symm⟩
    rw [hm, Nat.add_sub_cancel] at ih
    rw [hm, List.take_succ_cons, List.any_cons, ih, Bool.or_false]
    have : (l.take 8).length = 8 := by simp; omega
    unfold notFull
    rw [this]; rfl
theorem chunkP_end (l : List (List Val)) : ∃ c, (chunkP l)[(chunkP l).length - 1]? = some c ∧ c.length ≤ 8 ∧ (0 < c.length ∨ ((chunkP l).length = 1 ∧ l.length = 0)) := by
  refine chunkP_ind (P := fun l => ∃ c, (chunkP l)[(chunkP l).length - 1]? = some c ∧ c.length ≤ 8 ∧ (0 < c.length ∨ ((chunkP l).length = 1 ∧ l.length = 0))) (fun l h => ?_) (fun l h ih => ?_) l.length l (Nat.le_refl _)
  · rw [chunkP_last h]
    exact ⟨l, rfl, by omega, by by_cases e : l.length = 0; exact .inr ⟨rfl, e⟩; exact .inl (by omega)⟩
  · obtain ⟨c, h1, h2, h3⟩ := ih
    have hp := chunkP_pos (l.drop 8)
    obtain ⟨m, hm⟩ : ∃ m, (chunkP (l.drop 8)).length = m + 1 := ⟨_, (Nat.sub_add_cancel hp).symm⟩
    rw [chunkP_more h, List.length_cons, Nat.add_sub_cancel, hm, List.getElem?_cons_succ]
    rw [hm, Nat.add_sub_cancel] at h1
    refine ⟨c, h1, h2, .inl ?_⟩
    rcases h3 with h3 | ⟨_, h3⟩
    · exact h3
    · rw [List.length_drop] at h3; omega
theorem outE_chunk (s : Strm) (l : List (List Val)) (h : l.length ≤ 4096) : outE ⟨s, chunkP l, 0⟩ = 0 := by
  have hp := chunkP_pos l
  have hn := chunkP_num l
  obtain ⟨c, h1, h2, h3⟩ := chunkP_end l
  unfold outE
  simp only []
  rw [if_neg (by omega), if_neg (by omega), if_neg (by omega), if_neg (by rw [chunkP_full]; simp), if_pos]
  rw [h1]
  unfold lastP
  rcases h3 with h3 | h3
  · simp [h2, h3]
  · simp [h2, h3.1]
theorem same_refl (s : Strm) : sameS s s = true := by unfold sameS; simp
theorem eql_same (s : Strm) (w : World) : (binOp .eql 26 (.agg #[.int .u64 (s.qb : Int), .int .u64 (s.qn : Int), .int .i64 s.at_, .int .i64 s.fr, .int .i64 s.tq]) (.agg #[.int .u64 (s.qb : Int), .int .u64 (s.qn : Int), .int .i64 s.at_, .int .i64 s.fr, .int .i64 s.tq])).run Try.prog w = .ok (.bool true) w := by
  have := eql_strm (s.qb : Int) (s.qn : Int) s.at_ s.fr s.tq (s.qb : Int) (s.qn : Int) s.at_ s.fr s.tq w
  simpa using this
set_option maxRecDepth 100000 in
set_option maxHeartbeats 4000000 in
theorem cuts_any (s : Strm) (v : Value) (rows : List (List Val)) (K : Nat → Prop) (w : World) (hs : okS s) (h : ListIs rRow 1 24 K w v rows) (hK : ∀ b, K b → b < w.heap.size) :
    Calls Try.prog 5 #[.agg #[.int .u64 (s.qb : Int), .int .u64 (s.qn : Int), .int .i64 s.at_, .int .i64 s.fr, .int .i64 s.tq], v] w fun e w' => e = .returned (.bool true) ∧ Below w.heap.size w w' := by
  obtain ⟨q, c, rfl, hby, -⟩ := id h
  have hr63 : rows.length ≤ 5864062014806 := by omega
  obtain ⟨W0, hW0⟩ : ∃ W0, w.alloc (.cells #[.int .u64 (s.qb : Int), .int .u64 (s.qn : Int), .int .i64 s.at_, .int .i64 s.fr, .int .i64 s.tq] 26) = W0 := ⟨_, rfl⟩
  have hb0 : Below w.heap.size w W0 := by rw [← hW0]; exact (Below.refl _ _).alloc (Nat.le_refl _) _
  have hg0 : W0.heap[w.heap.size]? = some (.cells #[.int .u64 (s.qb : Int), .int .u64 (s.qn : Int), .int .i64 s.at_, .int .i64 s.fr, .int .i64 s.tq] 26 (0, 0)) := by rw [← hW0]; exact heap_alloc_new w _
  have hs0 : w.heap.size < W0.heap.size := (Array.getElem?_eq_some_iff.1 hg0).1
  have HV : Hid (∀ V, Below W0.heap.size W0 V → V.rangeAt w.heap.size 0 [.int .u64 (s.qb : Int), .int .u64 (s.qn : Int), .int .i64 s.at_, .int .i64 s.fr, .int .i64 s.tq] ∧ Below w.heap.size w V ∧ ListIs rRow 1 24 K V (.slice q rows.length c) rows ∧ (∀ b, K b → b < V.heap.size)) := fun V hb => by
    have hbw := hb0.trans (hb.mono hb0.size)
    exact ⟨fun j u hu => by rw [Nat.zero_add]; exact cell_of_row ((hb.block _ hs0).trans hg0) (by simpa using hu), hbw, h.mono mRow (fun _ h => h) (kept_of hK hbw), fun b hb' => Nat.lt_of_lt_of_le (hK b hb') hbw.size⟩
  have CL := hid (lives_any W0)
  have HS : Hid (okS s) := hs
  clear h hK hb0 hg0 hs0 hs hby
  go_enter Try.func5, Try.ntmps5
  go_wp2_with fail
  refine CL.out.mono ?_
  rintro e w1 ⟨rfl, hb1⟩
  obtain ⟨v1, v2, v3, v4⟩ := HV.out w1 hb1
  have HR1 : Hid (w1.rangeAt w.heap.size 0 [.int .u64 (s.qb : Int), .int .u64 (s.qn : Int), .int .i64 s.at_, .int .i64 s.fr, .int .i64 s.tq]) := v1
  have HB1 : Hid (Below W0.heap.size W0 w1) := hb1
  have CC := hid (cut_any s _ rows K w1 HS.out v3 v4)
  clear CL v1 v2 v3 v4 hb1 hW0
  go_wp2_with (refine wpList_load_mid rfl 26 _ rfl w.heap.size 0 rfl _ _ HR1.out Try.underlying26 rfl sz_Strm ?_)
  refine CC.out.mono ?_
  rintro e w2 ⟨cs2, rfl, hr2, hb2⟩
  have hB2 : Below W0.heap.size W0 w2 := HB1.out.trans (hb2.mono HB1.out.size)
  by_cases hbig : 4096 < rows.length
  · rw [if_pos hbig] at hr2 ⊢
    obtain ⟨q2, c2, rfl, _⟩ := out_cells hr2
    have z : (4096 : Int) < (rows.length : Int) := by omega
    have HB2 : Hid (Below w.heap.size w w2) := (HV.out w2 hB2).2.1
    clear CC hr2 hb2 hB2
    obtain ⟨WA, hWA, hth, WS, hWS, hrs, hss, hbs, hrl⟩ := box_new w2 33 #[.int .u64 0, .int .u64 0, .int .i64 0, .int .i64 0, .int .i64 0, .slice none 0 0, .int .u64 0] [.int .u64 ((0 : Nat) : Int), .int .u64 ((0 : Nat) : Int), .int .i64 0, .int .i64 0, .int .i64 0, .slice q2 0 c2, .int .u64 ((0 : Nat) : Int)] rfl
    have HTH : Hid (WA.there w2.heap.size 0 7) := hth
    have HWS : Hid (WA.setCells w2.heap.size 0 (#[.int .u64 ((0 : Nat) : Int), .int .u64 ((0 : Nat) : Int), .int .i64 0, .int .i64 0, .int .i64 0, .slice q2 0 c2, .int .u64 ((0 : Nat) : Int)] : Array Value).toList = WS) := hWS
    have HON : Hid ((#[.int .u64 ((0 : Nat) : Int), .int .u64 ((0 : Nat) : Int), .int .i64 0, .int .i64 0, .int .i64 0, .slice q2 0 c2, .int .u64 ((0 : Nat) : Int)] : Array Value).all (·.oneCell') = true) := by show _ = _; simp [Value.oneCell']
    have HBS : Hid (Below w.heap.size w WS) := HB2.out.trans (hbs.mono HB2.out.size)
    clear hth hWS hrs hss hbs hrl
    go_wp2_with (refine wpList_store_mid rfl 33 _ _ rfl w2.heap.size 0 #[.int .u64 ((0 : Nat) : Int), .int .u64 ((0 : Nat) : Int), .int .i64 0, .int .i64 0, .int .i64 0, .slice q2 0 c2, .int .u64 ((0 : Nat) : Int)] rfl rfl HTH.out sz_Out HON.out ?_; rw [HWS.out])
    go_ret
    exact ⟨by first | rfl | simp [z], HBS.out⟩
  · rw [if_neg hbig] at hr2 ⊢
    obtain ⟨q2, c2, rfl, _, hl2, hcap2, hby2⟩ := out_cells hr2
    obtain ⟨WA, hWA, hth, WS, hWS, hrs, hss, hbs, hrl⟩ := box_new w2 33 #[.int .u64 0, .int .u64 0, .int .i64 0, .int .i64 0, .int .i64 0, .slice none 0 0, .int .u64 0] [.int .u64 (s.qb : Int), .int .u64 (s.qn : Int), .int .i64 s.at_, .int .i64 s.fr, .int .i64 s.tq, .slice q2 (chunkP rows).length c2, .int .u64 0] rfl
    have hBS : Below W0.heap.size W0 WS := hB2.trans (hbs.mono hB2.size)
    have hnl := chunkP_num rows
    have hpl := chunkP_pos rows
    have hl9 : (chunkP rows).length ≤ 512 := by omega
    have HVS : Hid (∀ V, Below WS.heap.size WS V → V.rangeAt w2.heap.size 0 [.int .u64 (s.qb : Int), .int .u64 (s.qn : Int), .int .i64 s.at_, .int .i64 s.fr, .int .i64 s.tq, .slice q2 (chunkP rows).length c2, .int .u64 0] ∧ ListIs rBch 1 24 (From w1.heap.size w2) V (.slice q2 (chunkP rows).length c2) (chunkP rows) ∧ rOut (From w1.heap.size w2) V [.int .u64 (s.qb : Int), .int .u64 (s.qn : Int), .int .i64 s.at_, .int .i64 s.fr, .int .i64 s.tq, .slice q2 (chunkP rows).length c2, .int .u64 0] ⟨s, chunkP rows, 0⟩ ∧ (∀ b, From w1.heap.size w2 b → b < V.heap.size) ∧ Below W0.heap.size W0 V) := fun V hV => by
      have hbV : Below w2.heap.size w2 V := hbs.trans (hV.mono hbs.size)
      exact ⟨hrl V hV, hl2.later mBch From.lt hbV, mOut _ _ _ _ _ _ (fun _ h => h) (kept_of From.lt hbV) hr2, fun b hb => Nat.lt_of_lt_of_le hb.2 hbV.size, hB2.trans (hbV.mono hB2.size)⟩
    have HTH : Hid (WA.there w2.heap.size 0 7) := hth
    have HWS : Hid (WA.setCells w2.heap.size 0 (#[.int .u64 (s.qb : Int), .int .u64 (s.qn : Int), .int .i64 s.at_, .int .i64 s.fr, .int .i64 s.tq, .slice q2 (chunkP rows).length c2, .int .u64 0] : Array Value).toList = WS) := hWS
    have HON : Hid ((#[.int .u64 (s.qb : Int), .int .u64 (s.qn : Int), .int .i64 s.at_, .int .i64 s.fr, .int .i64 s.tq, .slice q2 (chunkP rows).length c2, .int .u64 0] : Array Value).all (·.oneCell') = true) := by show _ = _; simp [Value.oneCell']
    have HR2 : Hid (w2.heap.size < WS.heap.size ∧ w1.heap.size ≤ w2.heap.size) := ⟨by omega, hb2.size⟩
    obtain ⟨N, hN⟩ : ∃ N, (chunkP rows).length = N := ⟨_, rfl⟩
    have HN : Hid ((chunkP rows).length = N) := hN
    have f5 : WS.cell? ⟨w2.heap.size, 5, none⟩ = some (.slice q2 N c2) := by rw [← hN]; have := hrs 5 _ rfl; rwa [Nat.zero_add] at this
    have hN9 : N ≤ 512 := by omega
    have HRB : Hid (4096 ≥ rows.length) := by show _ ≤ _; omega
    clear CC hr2 hb2 hB2 hl2 hth hWS hrs hss hbs hrl hcap2 hby2 hbig hnl hpl hl9 hBS hN
    go_wp2_with (refine wpList_store_mid rfl 33 _ _ rfl w2.heap.size 0 #[.int .u64 (s.qb : Int), .int .u64 (s.qn : Int), .int .i64 s.at_, .int .i64 s.fr, .int .i64 s.tq, .slice q2 (chunkP rows).length c2, .int .u64 0] rfl rfl HTH.out sz_Out HON.out ?_; rw [HWS.out])
    go_loopg [7, 26] N (fun gf s7 s26 wx => ∃ (u : Value) (i : Nat), u = s7 ∧ s26 = .int .i64 i ∧ i ≤ N ∧ N ≤ i + gf ∧ Hid (OwnK (From w1.heap.size w2) rRow 1 89 WS.heap.size wx u ((chunkP rows).take i).flatten) ∧ Hid (Below WS.heap.size WS wx))
    case atStart => exact ⟨_, 0, rfl, rfl, by omega, by omega, ⟨[], World.ownsRow_nil _ _ _ _, fun j hj => by simp at hj⟩, Below.refl _ _⟩
    case round =>
      clear f5
      obtain ⟨u, i, rfl, rfl, hi1, hgf, HJ, HB⟩ := hrel
      obtain ⟨v1, v2, v3, v4, v5⟩ := HVS.out wr HB.out
      by_cases hi : i < N
      · obtain ⟨g', rfl⟩ : ∃ g', gk = g' + 1 := ⟨gk - 1, by omega⟩
        have hic : i < (chunkP rows).length := by rw [HN.out]; exact hi
        obtain ⟨bb, o, pm, cm, rfl, hKb, hcell, hlm⟩ := bch_at v2 i hic
        have hmem : (chunkP rows)[i] ∈ chunkP rows := List.getElem_mem hic
        have htk : (chunkP rows).take (i + 1) = (chunkP rows).take i ++ [(chunkP rows)[i]] := List.take_succ_eq_append_getElem hic
        obtain ⟨y, hy⟩ : ∃ y, (chunkP rows)[i] = y := ⟨_, rfl⟩
        rw [hy] at hcell hlm hmem htk
        have hy8 := chunkP_le rows y hmem
        have z0 : (0 : Int) ≤ (i : Int) := by omega
        have z1 : (i : Int) < (N : Int) := by omega
        have z8 : ¬ (8 : Int) < (y.length : Int) := by omega
        have hfl : ((chunkP rows).take i).flatten.length ≤ 4096 := by
          have h1 : ((chunkP rows).take i).flatten.length ≤ (chunkP rows).flatten.length := by
            rw [← List.take_append_drop i (chunkP rows), List.flatten_append, List.length_append]
            simp
          rw [chunkP_flat] at h1
          have := HRB.out; omega
        obtain ⟨j0, hj0, hj1, hj2, hj3⟩ := inE_row
        have hr2 := HR2.out
        have hown : ∀ b, From w1.heap.size w2 b → b < wr.heap.size ∧ u.ownBlock ≠ some b := fun b hb => ⟨v4 b hb, fun e => by obtain ⟨_, oo, _⟩ := HJ.out; have := (oo.lt b e).1; have := hb.2; omega⟩
        obtain ⟨v', X2, e2, hJ2, hk2, ho2⟩ := OwnK.app2 mRow (bytes := 24) Try.underlying27 hj0 hj1 hj2 hj3 rfl (by decide) HJ.out HB.out.size hlm row_one hown (by omega) (by unfold maxLen; omega) 27
        have hJ3 : OwnK (From w1.heap.size w2) rRow 1 89 WS.heap.size X2 v' ((chunkP rows).take (i + 1)).flatten := by
          rw [htk, List.flatten_append]
          simpa using hJ2
        have HJ2 := hid hJ3
        have HB2 : Hid (Below WS.heap.size WS X2) := ⟨hk2.os.trans HB.out.os, hk2.tape.trans HB.out.tape, hk2.output.trans HB.out.output, Nat.le_trans HB.out.size hk2.size, fun b hb => (hk2.block b ⟨Nat.lt_of_lt_of_le hb HB.out.size, fun e => by obtain ⟨_, oo, _⟩ := HJ.out; have := (oo.lt b e).1; omega⟩).trans (HB.out.block b hb)⟩
        clear v1 v2 v3 v4 v5 hlm hmem htk hJ2 hJ3 hk2 ho2 hy hfl hy8 hown hr2 hKb HJ HB
        go_wp2_with (at_builtin; refine Lib.wpList_append_run _ rfl _ _ _ _ rfl u (.slice pm y.length cm) rfl rfl _ _ e2 ?_)
        go_roundg g'
        case measure => omega
        case rel => exact ⟨_, i + 1, rfl, by go_num, by omega, by omega, HJ2, HB2⟩
      · have z1 : ¬ (i : Int) < (N : Int) := by omega
        have hJ := HJ.out
        rw [List.take_of_length_le (by rw [HN.out]; omega), chunkP_flat] at hJ
        have hr2 := HR2.out
        have hrb := HRB.out
        obtain ⟨pu, cu, rfl, l1⟩ := hJ.listU mRow (bytes := 24) (by omega)
        obtain ⟨t1, t2, t3, t4⟩ := HV.out wr v5
        have CS := hid (rows_eq _ _ rows _ K wr l1 t3 (fun b hb => hb.elim (v4 b) (fun h => h.2)) t4)
        have HB' : Hid (Below WS.heap.size WS wr) := HB.out
        have CO : Hid (∀ V, Below WS.heap.size WS V → Calls Try.prog 15 #[.agg #[.int .u64 (s.qb : Int), .int .u64 (s.qn : Int), .int .i64 s.at_, .int .i64 s.fr, .int .i64 s.tq, .slice q2 (chunkP rows).length c2, .int .u64 0]] V fun e w' => e = .returned (.int .i64 0) ∧ Below V.heap.size V w') := fun V hV => by
          obtain ⟨_, _, x3, x4, _⟩ := HVS.out V hV
          have := checkOut_any _ _ _ V x3 x4
          rw [outE_chunk s rows (by omega)] at this
          exact this
        clear v1 v2 v3 v4 v5 t1 t2 t3 t4 l1 hJ HJ HB hr2 hrb
        go_wp2_with fail
        refine CS.out.mono ?_
        rintro e w3 ⟨rfl, hb3⟩
        have hB3 : Below WS.heap.size WS w3 := HB'.out.trans (hb3.mono HB'.out.size)
        obtain ⟨x1, _⟩ := HVS.out w3 hB3
        have HR3 : Hid (w3.rangeAt w2.heap.size 0 [.int .u64 (s.qb : Int), .int .u64 (s.qn : Int), .int .i64 s.at_, .int .i64 s.fr, .int .i64 s.tq, .slice q2 (chunkP rows).length c2, .int .u64 0]) := x1
        have CO3 := hid (CO.out w3 hB3)
        have HB3 : Hid (Below WS.heap.size WS w3) := hB3
        clear CS hb3 hB3 x1 CO HB'
        go_wp2_with (refine wpList_load_midH rfl 33 _ rfl w2.heap.size 0 rfl _ _ HR3.out Try.underlying33 rfl sz_Out ?_)
        refine CO3.out.mono ?_
        rintro e w4 ⟨rfl, hb4⟩
        have hB4 : Below WS.heap.size WS w4 := HB3.out.trans (hb4.mono HB3.out.size)
        obtain ⟨x1, _, _, _, x5⟩ := HVS.out w4 hB4
        obtain ⟨y1, y2, _⟩ := HV.out w4 x5
        have g6 : w4.cell? ⟨w2.heap.size, 6, none⟩ = some (.int .u64 0) := by have := x1 6 _ rfl; rwa [Nat.zero_add] at this
        have HRO : Hid (w4.rangeAt w2.heap.size 0 [.int .u64 (s.qb : Int), .int .u64 (s.qn : Int), .int .i64 s.at_, .int .i64 s.fr, .int .i64 s.tq]) := fun j u hu => x1 j u (by
          match j, hu with
          | 0, hu => exact hu
          | 1, hu => exact hu
          | 2, hu => exact hu
          | 3, hu => exact hu
          | 4, hu => exact hu)
        have HRS2 : Hid (w4.rangeAt w.heap.size 0 [.int .u64 (s.qb : Int), .int .u64 (s.qn : Int), .int .i64 s.at_, .int .i64 s.fr, .int .i64 s.tq]) := y1
        have HB4 : Hid (Below w.heap.size w w4) := y2
        have EQ := eql_same s
        clear CO3 HR3 hb4 hB4 x1 x5 y1 y2
        go_wp2_with (first | (refine wpList_load_midH rfl 26 _ rfl w2.heap.size 0 rfl _ _ HRO.out Try.underlying26 rfl sz_Strm ?_) | (refine wpList_load_midH rfl 26 _ rfl w.heap.size 0 rfl _ _ HRS2.out Try.underlying26 rfl sz_Strm ?_))
        go_ret
        exact ⟨rfl, HB4.out⟩
end Go.Proofs.Ytnajchehdgagmaa
