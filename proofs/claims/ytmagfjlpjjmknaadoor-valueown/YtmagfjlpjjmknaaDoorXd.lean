/- What the reference's CopyRows answers. -/
import Derived.Test.YtmagfjlpjjmknaaDoorXc
namespace Go.Proofs.YtmagfjlpjjmknaaDoor
open Go.RowKit Go.Lib Go.Sort
set_option linter.unusedVariables false
set_option linter.unusedSimpArgs false
attribute [local go_sem ↓] Go.wp_at_zero Go.wp_at_succ
theorem wpList_append_run {P : Program} (w : World) {ops : Array Oper} {rest : List Oper} {o : Oper} {a : Act} {Q : Exit → Act → World → Prop} (hgd : o.guard = none) (s x : Operand) (t t' : TypeId)
    (ho : o.op = .call { callee := .builtin .append, args := #[s, x], argTypes := #[t, t'] }) (vs vx v' : Value) (w' : World) (hs : a.eval s = vs) (hx : a.eval x = vx)
    (hrun : (Builtin.append_ #[t, t'] o.type #[vs, vx]).run P w = .ok v' w') (h : wpList P ops Q rest (a.put o.dst v') w') : wpList P ops Q (o :: rest) a w := by
  refine wpList_plain hgd fun K hK => ?_
  unfold Oper.wp
  simp [execOp, ho, resolve, invoke, builtin, hs, hx, hrun, Result.andThen]
  exact hK _ _ h
/-- Rows that are being gathered. -/
def GathJ (w : World) (i : Nat) (rs : List (List Val)) (v : Value) (wx : World) : Prop :=
  ∃ us : List Value, wx.ownsRow w.heap.size 38 1 v i us ∧ Below w.heap.size w wx ∧ ∀ j (h : j < rs.length), j < i → ∃ u, us[j]? = some u ∧ OwnR w.heap.size wx u rs[j]
theorem grown_below {w1 W W' : World} {row : Option Nat} (hB : Below w1.heap.size w1 W) (hg : W.grownBy W' row) (hk : ∀ k, row = some k → w1.heap.size ≤ k) : Below w1.heap.size w1 W' :=
  ⟨hg.os.trans hB.os, hg.tape.trans hB.tape, hg.output.trans hB.output, Nat.le_trans hB.size hg.size,
    fun i hi => (hg.block i (Nat.lt_of_lt_of_le hi hB.size) (fun e => by have := hk i e.symm; omega)).trans (hB.block i hi)⟩
/-- The slice that holds rows and a row of values lie in two blocks. -/
theorem own_apart {W : World} {b b' n m : Nat} {v u : Value} {us xs : List Value} (h : W.ownsRow b 38 1 v n us) (h' : W.ownsRow b' 30 4 u m xs) : u.ownBlock = none ∨ u.ownBlock ≠ v.ownBlock := by
  obtain ⟨_, ⟨rfl, _⟩ | ⟨g, cap, cur, rfl, _, hg, _⟩⟩ := h
  · obtain ⟨_, ⟨rfl, _⟩ | ⟨g', cap', cur', rfl, _, hg', _⟩⟩ := h'
    · exact .inl rfl
    · exact .inr (by simp [Value.ownBlock])
  · obtain ⟨_, ⟨rfl, _⟩ | ⟨g', cap', cur', rfl, _, hg', _⟩⟩ := h'
    · exact .inl rfl
    · refine .inr fun e => ?_
      simp only [Value.ownBlock, Option.some.injEq] at e
      subst e
      rw [hg] at hg'
      simp at hg'
/-- append(api.Row{}, r...): a row of its own memory. -/
theorem row_new (w W : World) (ty : TypeId) (u : Value) (xs : List Val) (hr : RowV w u xs) (hB : Below w.heap.size w W) (hby : xs.length * 32 ≤ 140737488355328) :
    ∃ v' W', (Builtin.append_ #[38, 38] ty #[.slice (some ⟨W.heap.size, 0, none⟩) 0 0, u]).run Tryd.prog (W.alloc (.cells #[] 30)) = .ok v' W' ∧ W'.ownsRow W.heap.size 30 4 v' xs.length (flat xs) ∧ W.grownBy W' none := by
  obtain ⟨i0, hi, hz0, hz1, hz2⟩ := info24
  have hown : (W.alloc (.cells #[] 30)).ownsRow W.heap.size 30 4 (.slice (some ⟨W.heap.size, 0, none⟩) 0 0) 0 [] := ⟨rfl, .inr ⟨W.heap.size, 0, #[], rfl, Nat.le_refl _, heap_alloc_new W _, Nat.le_refl _, Nat.zero_le _, rfl, rfl⟩⟩
  have gr : W.grownBy (W.alloc (.cells #[] 30)) none := World.grownBy_alloc W _ none
  obtain ⟨p, c, rfl, hc⟩ := hr.cells
  rcases hc with ⟨rfl, rfl⟩ | ⟨rfl, a, rfl⟩ | ⟨b, o, rfl, hlt, hc⟩
  · refine ⟨.slice (some ⟨W.heap.size, 0, none⟩) 0 0, _, ?_, hown, gr⟩
    simp [Builtin.append_, run_underlying Tryd.underlying38, sizeOf, typeInfo, hi, Builtin.lenOf, Builtin.firstCells, loadCells, loadCellsFrom, storeCells]
  · have hl : (loadCells a 0).run Tryd.prog (W.alloc (.cells #[] 30)) = .ok #[] (W.alloc (.cells #[] 30)) := by simpa using run_loadCells_list (P := Tryd.prog) (W.alloc (.cells #[] 30)) a [] (by simp)
    refine ⟨.slice (some ⟨W.heap.size, 0, none⟩) 0 0, _, ?_, hown, gr⟩
    simp [Builtin.append_, run_underlying Tryd.underlying38, sizeOf, typeInfo, hi, Builtin.lenOf, Builtin.firstCells, hl, storeCells]
  · have hB1 : Below w.heap.size w (W.alloc (.cells #[] 30)) := hB.alloc hB.size _
    obtain ⟨v', W', e, h2, h3, _, h5⟩ := run_append_own_at (P := Tryd.prog) (W.alloc (.cells #[] 30)) W.heap.size 38 ty 30 i0 _ 4 32 Tryd.underlying38 hi hz0 hz1 hz2 rfl (by omega) _ 0 [] hown ⟨b, o, none⟩ xs.length c (flat xs) (flat_length xs)
      (fun j u hu => by rw [hB1.cell (by unfold Addr.add; split <;> exact hlt)]; exact hc j u hu) (flat_one xs) (by unfold maxLen; omega) (by omega) (by simp)
    rw [Nat.zero_add, List.nil_append] at h2
    refine ⟨v', W', e, h2, ⟨h3.os.trans gr.os, h3.tape.trans gr.tape, h3.output.trans gr.output, Nat.le_trans gr.size h3.size, fun k hk hne => ?_⟩⟩
    rw [h3.block k (by have := gr.size; omega) (by simp [Value.ownBlock]; omega)]
    exact gr.block k hk hne
/-- append(out, r): one row more. -/
theorem rows_more (base : Nat) (W : World) (ty : TypeId) (v u : Value) (n : Nat) (us : List Value) (hv : W.ownsRow base 38 1 v n us) (h1 : u.oneCell' = true) (hbase : base ≤ W.heap.size) (hby : (n + 1) * 24 ≤ 140737488355328) :
    ∃ v' W', (Builtin.append_ #[35, 35] ty #[v, .slice (some ⟨W.heap.size, 0, none⟩) 1 1]).run Tryd.prog (W.alloc (.cells #[u] 38)) = .ok v' W' ∧ W'.ownsRow base 38 1 v' (n + 1) (us ++ [u]) ∧ W.grownBy W' v.ownBlock := by
  obtain ⟨i0, hi, hz0, hz1, hz2⟩ := info38
  have gr : W.grownBy (W.alloc (.cells #[u] 38)) v.ownBlock := World.grownBy_alloc W _ _
  obtain ⟨v', W', e, h2, h3, _, h5⟩ := run_append_own_at (P := Tryd.prog) (W.alloc (.cells #[u] 38)) base 35 ty 38 i0 _ 1 24 Tryd.underlying35 hi hz0 hz1 hz2 rfl (by omega) v n us (hv.alloc _) ⟨W.heap.size, 0, none⟩ 1 1 [u] rfl
    (cell_one_new W u 38) (by simpa using h1) (by unfold maxLen; omega) (by omega) (by simp; omega)
  exact ⟨v', W', e, h2, World.grownBy.trans gr h3⟩
theorem ownR_one {base : Nat} {W : World} {u : Value} {xs : List Val} (h : OwnR base W u xs) : u.oneCell' = true := by
  obtain ⟨_, ⟨rfl, _⟩ | ⟨g, cap, cur, rfl, _⟩⟩ := h <;> rfl
theorem gath_step {w wr : World} {i : Nat} {rs : List (List Val)} {xs : List Val} {v u : Value} (hJ : GathJ w i rs v wr) (hx : rs[i]? = some xs) (hr : RowV w u xs) (hby : xs.length * 32 ≤ 140737488355328) (hn : (i + 1) * 24 ≤ 140737488355328) :
    ∃ q1 m1 c1 W1 v2 W2, (Builtin.append_ #[38, 38] 38 #[.slice (some ⟨wr.heap.size, 0, none⟩) 0 0, u]).run Tryd.prog (wr.alloc (.cells #[] 30)) = .ok (.slice q1 m1 c1) W1 ∧
      (Builtin.append_ #[35, 35] 35 #[v, .slice (some ⟨W1.heap.size, 0, none⟩) 1 1]).run Tryd.prog (W1.alloc (.cells #[.slice q1 m1 c1] 38)) = .ok v2 W2 ∧ GathJ w (i + 1) rs v2 W2 := by
  obtain ⟨us, hv, hb, hr'⟩ := hJ
  obtain ⟨u1, W1, e1, o1, g1⟩ := row_new w wr 38 u xs hr hb hby
  have hv1 : W1.ownsRow w.heap.size 38 1 v i us := hv.kept g1 (by cases v.ownBlock <;> simp)
  have hb1 := grown_below hb g1 (fun k h => by cases h)
  have o1' : OwnR w.heap.size W1 u1 xs := by
    obtain ⟨hl, h | ⟨g, cap, cur, h0, h1, rest⟩⟩ := o1
    · exact ⟨hl, .inl h⟩
    · exact ⟨hl, .inr ⟨g, cap, cur, h0, Nat.le_trans hb.size h1, rest⟩⟩
  obtain ⟨v2, W2, e2, o2, g2⟩ := rows_more w.heap.size W1 35 v u1 i us hv1 (ownR_one o1') hb1.size hn
  obtain ⟨q1, m1, c1, rfl⟩ : ∃ q1 m1 c1, u1 = .slice q1 m1 c1 := by
    obtain ⟨_, ⟨rfl, _⟩ | ⟨g, cap, cur, rfl, _⟩⟩ := o1' <;> exact ⟨_, _, _, rfl⟩
  refine ⟨q1, m1, c1, W1, v2, W2, e1, e2, us ++ [.slice q1 m1 c1], o2, grown_below hb1 g2 (fun k h => (hv1.lt k h).1), fun j hj hji => ?_⟩
  have hul : us.length = i := by simpa using hv.1
  by_cases e : j = i
  · subst e
    have ex : rs[j] = xs := by
      rw [List.getElem?_eq_getElem hj] at hx
      exact Option.some.inj hx
    refine ⟨_, by rw [List.getElem?_append_right (by omega), hul, Nat.sub_self]; rfl, ?_⟩
    rw [ex]
    exact o1'.kept g2 (own_apart hv1 o1')
  · obtain ⟨u', h1, h2⟩ := hr' j hj (by omega)
    refine ⟨u', by rw [List.getElem?_append_left (by omega)]; exact h1, ?_⟩
    have h3 : OwnR w.heap.size W1 u' rs[j] := h2.kept g1 (by cases u'.ownBlock <;> simp)
    exact h3.kept g2 (own_apart hv1 h3)
theorem GathJ.start (w : World) (rs : List (List Val)) : GathJ w 0 rs (.slice none 0 0) w := ⟨[], World.ownsRow_nil _ _ _ _, Below.refl _ _, fun j _ h => by omega⟩
set_option maxRecDepth 100000 in
set_option maxHeartbeats 4000000 in
theorem refCopy_any (v : Value) (rs : List (List Val)) (w : World) (h : RowsL w v rs) (hn : rs.length * 24 ≤ 140737488355328) (hr : ∀ r ∈ rs, r.length * 32 ≤ 140737488355328) :
    Calls Tryd.prog 14 #[v] w fun e w' => ∃ u, e = .returned u ∧ GathJ w rs.length rs u w' := by
  obtain ⟨p, c, rfl, hl, hp⟩ := h
  have HP : Hid (0 < rs.length → ∃ b o, p = some ⟨b, o, none⟩ ∧ b < w.heap.size ∧ ∀ j (h : j < rs.length), ∃ u, w.cell? ⟨b, o + j, none⟩ = some u ∧ RowV w u rs[j]) := hp
  have HR : Hid (∀ r ∈ rs, r.length * 32 ≤ 140737488355328) := hr
  clear hp hr
  go_enter Tryd.func14, Tryd.ntmps14
  go_wp2_with fail
  go_loopg [3, 8] rs.length (fun gf s3 s8 wx => ∃ i : Nat, s8 = .int .i64 i ∧ i ≤ rs.length ∧ rs.length ≤ i + gf ∧ Hid (GathJ w i rs s3 wx))
  case atStart => exact ⟨0, rfl, by omega, by omega, GathJ.start w rs⟩
  case round =>
    obtain ⟨i, rfl, hi1, hgf, HJ⟩ := hrel
    by_cases hi : i < rs.length
    · obtain ⟨g', rfl⟩ : ∃ g', gk = g' + 1 := ⟨gk - 1, by omega⟩
      obtain ⟨b, o, rfl, hB, hc⟩ := HP.out (by omega)
      obtain ⟨u, x0, x1⟩ := hc i hi
      have hbw : Below w.heap.size w wr := by obtain ⟨_, _, h, _⟩ := HJ.out; exact h
      rw [← hbw.cell (p := ⟨b, _, none⟩) hB] at x0
      obtain ⟨q1, m1, c1, W1, v2, W2, e1, e2, J2⟩ := gath_step HJ.out (List.getElem?_eq_getElem hi) x1 (HR.out _ (List.getElem_mem hi)) (by omega)
      have HJ2 : Hid (GathJ w (i + 1) rs v2 W2) := J2
      obtain ⟨q, m, c2, rfl⟩ := x1.slice
      have hz0 : (0 : Int) ≤ (i : Int) := by omega
      have hz1 : (i : Int) < (rs.length : Int) := by omega
      clear J2 HJ hc x1 hbw HP HR
      have E1 : Hid _ := e1
      have E2 : Hid _ := e2
      clear e1 e2
      go_wp2_with (at_builtin; first | refine wpList_append_run _ rfl _ _ 38 38 rfl _ _ _ _ rfl rfl E1.out ?_ | refine wpList_append_run _ rfl _ _ 35 35 rfl _ _ _ _ rfl rfl E2.out ?_)
      go_roundg g'
      case measure => omega
      case rel => exact ⟨i + 1, by go_num, by omega, by omega, HJ2⟩
    · have hend : i = rs.length := by omega
      subst hend
      have hz1 : ¬ (rs.length : Int) < (rs.length : Int) := by omega
      clear HP HR
      go_wp2_with fail
      go_ret
      exact ⟨_, rfl, HJ.out⟩
end Go.Proofs.YtmagfjlpjjmknaaDoor
