/- A table's shards: what the reference's Split answers. -/
import Derived.Test.YthfoijnjgdeaaaaDoorPnPo
import Derived.Test.YthfoijnjgdeaaaaDoorXm
namespace Go.Proofs.YthfoijnjgdeaaaaDoor
open Go.Shelf Go.RowKit Go.Lib Go.Sort
set_option linter.unusedVariables false
set_option linter.unusedSimpArgs false
attribute [local go_sem ↓] Go.wp_at_zero Go.wp_at_succ
/-- The shards as the reference makes them: one behind the other. -/
def PTr (S : Int) (rs : List (List Val)) (s k : Nat) (j : Nat) : List (List Val) := if j < s then partOf S rs j else if j = s then partOf S (rs.take k) j else []
theorem PTr_yes (S : Int) (rs : List (List Val)) (s k : Nat) (hk : k < rs.length) (h : shd S rs[k] = (s : Int)) : PTr S rs s (k + 1) = fun j => if j = s then PTr S rs s k j ++ [rs[k]] else PTr S rs s k j := by
  funext j
  unfold PTr
  by_cases e : j = s
  · subst e
    simp only [Nat.lt_irrefl, if_false, if_true]
    rw [partOf_step S rs k hk j h]
    simp
  · simp only [e, if_false]
theorem PTr_no (S : Int) (rs : List (List Val)) (s k : Nat) (hk : k < rs.length) (h : ¬ shd S rs[k] = (s : Int)) : PTr S rs s (k + 1) = PTr S rs s k := by
  funext j
  unfold PTr
  by_cases e : j = s
  · subst e
    simp only [Nat.lt_irrefl, if_false, if_true]
    unfold partOf
    rw [List.take_succ_eq_append_getElem hk, List.filter_append]
    simp [h]
  · simp only [e, if_false]
theorem PTr_next (S : Int) (rs : List (List Val)) (s : Nat) : PTr S rs s rs.length = PTr S rs (s + 1) 0 := by
  funext j
  unfold PTr
  by_cases e : j = s
  · subst e
    simp [List.take_length]
  · by_cases e2 : j < s
    · rw [if_pos e2, if_pos (by omega)]
    · rw [if_neg e2, if_neg e, if_neg (by omega)]
      by_cases e3 : j = s + 1
      · rw [if_pos e3]; simp [partOf]
      · rw [if_neg e3]
theorem SplJ.congr {w1 W : World} {S : Nat} {PT PT' : Nat → List (List Val)} (h : SplJ w1 S PT W) (he : ∀ j, j < S → PT j = PT' j) : SplJ w1 S PT' W := by
  obtain ⟨cur, U, hg, hc, hu, hB, hp, hd⟩ := h
  exact ⟨cur, U, hg, hc, hu, hB, fun j hj => by rw [← he j hj]; exact hp j hj, hd⟩
theorem PTr_len (S : Int) (rs : List (List Val)) (s k : Nat) : (PTr S rs s k s).length ≤ rs.length := by
  unfold PTr
  simp only [Nat.lt_irrefl, if_false, if_true]
  exact Nat.le_trans (partOf_len _ _ _) (by simp [List.length_take]; omega)
theorem step_append25 {ops : Array Oper} {o : Oper} {a : Act} {K : Act → World → Prop} {Q : Exit → Act → World → Prop} {E : Prop} (W : World) (hgd : o.guard = none) (s x : Operand)
    (ho : o.op = .call { callee := .builtin .append, args := #[s, x], argTypes := #[25, 25] }) (vs vx v' : Value) (W' : World) (hs : a.eval s = vs) (hx : a.eval x = vx)
    (hrun : (Builtin.append_ #[25, 25] o.type #[vs, vx]).run Tryd.prog W = .ok v' W') (h : K (a.put o.dst v') W') :
    if Region.wanted o (yielded ops a.tmps) = true then Oper.wp Tryd.prog o a W K Q else E := by
  have hw : Region.wanted o (yielded ops a.tmps) = true := by simp [Region.wanted, hgd]
  rw [if_pos hw]
  unfold Oper.wp execOp
  simp only [ho, resolve, invoke, builtin, Sem.run_bind, Sem.run_pure, Result.andThen_ok, List.map_toArray, List.map_cons, List.map_nil, hs, hx, hrun]
  exact h
/-- One row more, as the reference puts it there. -/
theorem refSplit_step {w1 wr : World} {S s : Nat} {PT : Nat → List (List Val)} {u v0 : Value} {r : List Val} (hJ : SplJ w1 S PT wr) (hs : s < S) (hu : RowV wr u r) (hby : r.length * 32 ≤ 140737488355328) (hn : ((PT s).length + 1) * 24 ≤ 140737488355328) (hv : wr.cell? ⟨w1.heap.size, s, none⟩ = some v0) :
    ∃ q1 m1 c1 W1 p n c W2, Below wr.heap.size wr W1 ∧ (Builtin.append_ #[25, 25] 25 #[.slice (some ⟨wr.heap.size, 0, none⟩) 0 0, u]).run Tryd.prog (wr.drew.alloc (.cells #[] 64)) = .ok (.slice q1 m1 c1) W1 ∧
      (Builtin.append_ #[27, 27] 27 #[v0, .slice (some ⟨W1.heap.size, 0, none⟩) 1 1]).run Tryd.prog (W1.alloc (.cells #[.slice q1 m1 c1] 25)) = .ok (.slice p n c) W2 ∧
      W2.cell? ⟨w1.heap.size, s, none⟩ = some v0 ∧ W2.frozen? ⟨w1.heap.size, s, none⟩ = false ∧ SplJ w1 S (fun j => if j = s then PT j ++ [r] else PT j) (W2.setCell ⟨w1.heap.size, s, none⟩ (.slice p n c)) := by
  have hd : Below wr.heap.size wr wr.drew := (Below.refl _ _).drew
  obtain ⟨u1, W1, e1, o1, g1⟩ := row_new wr wr.drew 25 u r hu hd hby
  have o1' : OwnR wr.heap.size W1 u1 r := o1
  have hb1 : Below wr.heap.size wr W1 := grown_below hd g1 (fun k h => by cases h)
  obtain ⟨p, n, c, W2, h4, h5, h6, h7⟩ := split_step2 hJ hs hb1 o1' hn hv 27
  obtain ⟨q1, m1, c1, rfl⟩ := ownR_form o1'
  exact ⟨q1, m1, c1, W1, p, n, c, W2, hb1, e1, h4, h5, h6, h7⟩
set_option maxRecDepth 100000 in
set_option maxHeartbeats 4000000 in
theorem refSplit_bad (N S R : Int) (nm : ByteArray) (pc : Option Addr) (mc cc : Nat) (cs : List Col) (pr : Option Addr) (cr : Nat) (rs : List (List Val)) (w : World) (hc : ColA w (.slice pc mc cc) cs) (hr : RowsA w pr rs) (he : splitE N S R nm cs rs ≠ 0) :
    Calls Tryd.prog 14 #[.agg #[.int .i64 N, .int .i64 S, .int .i64 R], .agg #[.string nm, .slice pc mc cc, .slice pr rs.length cr]] w fun e w' => e = .returned (.tuple #[.slice none 0 0, .int .i64 (splitE N S R nm cs rs)]) ∧ Below w.heap.size w w' := by
  have C2 : Hid (∀ W, Below w.heap.size w W → Calls Tryd.prog 32 #[.agg #[.string nm, .slice pc mc cc, .slice pr rs.length cr]] W fun e w' => e = .returned (.int .i64 (tableV nm cs rs)) ∧ Below W.heap.size W w') := fun W h => tableRef_core nm pc mc cc cs pr cr rs W (hc.below h) (hr.below h) _ (show _ = _ from rfl)
  clear hc hr
  by_cases h0 : layE N S R = 0
  · have C1 : Hid (∀ W, Calls Tryd.prog 19 #[.agg #[.int .i64 N, .int .i64 S, .int .i64 R]] W fun e w' => e = .returned (.int .i64 0) ∧ Below W.heap.size W w') := fun W => by rw [← h0]; exact refLay_any N S R W
    have e : splitE N S R nm cs rs = tableV nm cs rs := by unfold splitE; rw [if_pos h0]
    rw [e] at he ⊢
    obtain ⟨E, hE⟩ : ∃ E, tableV nm cs rs = E := ⟨_, rfl⟩
    rw [hE] at C2 he ⊢
    have hne : (E != 0) = true := bne_iff_ne.2 he
    clear e hE h0 he
    go_enter Tryd.func14, Tryd.ntmps14
    go_wp2_with fail
    refine (C1.out _).mono ?_
    rintro e w1 ⟨rfl, hb1⟩
    have y0 : w1.cell? ⟨w.heap.size + 1, 0, none⟩ = some (.string nm) := by rw [hb1.cell (by simp)]; exact two_second w _ _ _ _ _ rfl
    have y1 : w1.cell? ⟨w.heap.size + 1, 1, none⟩ = some (.slice pc mc cc) := by rw [hb1.cell (by simp)]; exact two_second w _ _ _ _ _ rfl
    have y2 : w1.cell? ⟨w.heap.size + 1, 2, none⟩ = some (.slice pr rs.length cr) := by rw [hb1.cell (by simp)]; exact two_second w _ _ _ _ _ rfl
    have HB : Hid (Below w.heap.size w w1) := (two_below w _ _).trans (hb1.mono (by simp; omega))
    clear hb1
    go_wp2_with fail
    refine (C2.out _ HB.out).mono ?_
    rintro e w2 ⟨rfl, hb2⟩
    have HB2 : Hid (Below w.heap.size w w2) := HB.out.trans (hb2.mono HB.out.size)
    clear hb2
    go_wp2_with fail
    go_ret2
    exact ⟨rfl, HB2.out⟩
  · have C1 : Hid (∀ W, Calls Tryd.prog 19 #[.agg #[.int .i64 N, .int .i64 S, .int .i64 R]] W fun e w' => e = .returned (.int .i64 2) ∧ Below W.heap.size W w') := fun W => by rw [← layE_two h0]; exact refLay_any N S R W
    have e : splitE N S R nm cs rs = 2 := by unfold splitE; rw [if_neg h0]; exact layE_two h0
    rw [e]
    clear e he h0
    go_enter Tryd.func14, Tryd.ntmps14
    go_wp2_with fail
    refine (C1.out _).mono ?_
    rintro e w1 ⟨rfl, hb1⟩
    have HB : Hid (Below w.heap.size w w1) := (two_below w _ _).trans (hb1.mono (by simp; omega))
    clear hb1
    go_wp2_with fail
    go_ret2
    exact ⟨rfl, HB.out⟩
end Go.Proofs.YthfoijnjgdeaaaaDoor
