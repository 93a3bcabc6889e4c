/- A table's shards: what the reference's Split answers. -/
import Derived.Test.YthfoijnjgdeaaaaDoorPnPo
import Derived.Test.YthfoijnjgdeaaaaDoorXm
import Derived.Deep.RegionLaw
namespace Go.Proofs.YthfoijnjgdeaaaaDoor
open Go.Shelf Go.RowKit Go.Lib Go.Sort
set_option linter.unusedVariables false
set_option linter.unusedSimpArgs false
attribute [local go_sem ↓] Go.wp_at_zero Go.wp_at_succ
/-- The shards as the reference makes them: one behind the other. -/
def PTr (S : Int) (rs : List (List Val)) (s k : Nat) (j : Nat) : List (List Val) := if j < s then partOf S rs j else if j = s then partOf S (rs.take k) j else []
theorem PTr_yes (S : Int) (rs : List (List Val)) (s k : Nat) (hk : k < rs.length) (h : shd S rs[k] = (s : Int)) : PTr S rs s (k + 1) = fun j => if j = s then PTr S rs s k j ++ [rs[k]] else PTr S rs s k j := by
  funext j
  unfold PTr
  by_cases e : j = s
  · subst e
    simp only [Nat.lt_irrefl, if_false, if_true]
    rw [partOf_step S rs k hk j h]
    simp
  · simp only [e, if_false]
theorem PTr_no (S : Int) (rs : List (List Val)) (s k : Nat) (hk : k < rs.length) (h : ¬ shd S rs[k] = (s : Int)) : PTr S rs s (k + 1) = PTr S rs s k := by
  funext j
  unfold PTr
  by_cases e : j = s
  · subst e
    simp only [Nat.lt_irrefl, if_false, if_true]
    unfold partOf
    rw [List.take_succ_eq_append_getElem hk, List.filter_append]
    simp [h]
  · simp only [e, if_false]
theorem PTr_next (S : Int) (rs : List (List Val)) (s : Nat) : PTr S rs s rs.length = PTr S rs (s + 1) 0 := by
  funext j
  unfold PTr
  by_cases e : j = s
  · subst e
    simp [List.take_length]
  · by_cases e2 : j < s
    · rw [if_pos e2, if_pos (by omega)]
    · rw [if_neg e2, if_neg e, if_neg (by omega)]
      by_cases e3 : j = s + 1
      · rw [if_pos e3]; simp [partOf]
      · rw [if_neg e3]
theorem SplJ.congr {w1 W : World} {S : Nat} {PT PT' : Nat → List (List Val)} (h : SplJ w1 S PT W) (he : ∀ j, j < S → PT j = PT' j) : SplJ w1 S PT' W := by
  obtain ⟨cur, U, hg, hc, hu, hB, hp, hd⟩ := h
  exact ⟨cur, U, hg, hc, hu, hB, fun j hj => by rw [← he j hj]; exact hp j hj, hd⟩
theorem PTr_len (S : Int) (rs : List (List Val)) (s k : Nat) : (PTr S rs s k s).length ≤ rs.length := by
  unfold PTr
  simp only [Nat.lt_irrefl, if_false, if_true]
  exact Nat.le_trans (partOf_len _ _ _) (by simp [List.length_take]; omega)
theorem step_append25 {ops : Array Oper} {o : Oper} {a : Act} {K : Act → World → Prop} {Q : Exit → Act → World → Prop} {E : Prop} (W : World) (hgd : o.guard = none) (s x : Operand)
    (ho : o.op = .call { callee := .builtin .append, args := #[s, x], argTypes := #[25, 25] }) (vs vx v' : Value) (W' : World) (hs : a.eval s = vs) (hx : a.eval x = vx)
    (hrun : (Builtin.append_ #[25, 25] o.type #[vs, vx]).run Tryd.prog W = .ok v' W') (h : K (a.put o.dst v') W') :
    if Region.wanted o (yielded ops a.tmps) = true then Oper.wp Tryd.prog o a W K Q else E := by
  have hw : Region.wanted o (yielded ops a.tmps) = true := by simp [Region.wanted, hgd]
  rw [if_pos hw]
  unfold Oper.wp execOp
  simp only [ho, resolve, invoke, builtin, Sem.run_bind, Sem.run_pure, Result.andThen_ok, List.map_toArray, List.map_cons, List.map_nil, hs, hx, hrun]
  exact h
/-- One row more, as the reference puts it there. -/
theorem refSplit_step {w1 wr : World} {S s : Nat} {PT : Nat → List (List Val)} {u v0 : Value} {r : List Val} (hJ : SplJ w1 S PT wr) (hs : s < S) (hu : RowV wr u r) (hby : r.length * 32 ≤ 140737488355328) (hn : ((PT s).length + 1) * 24 ≤ 140737488355328) (hv : wr.cell? ⟨w1.heap.size, s, none⟩ = some v0) :
    ∃ q1 m1 c1 W1 p n c W2, Below wr.heap.size wr W1 ∧ (Builtin.append_ #[25, 25] 25 #[.slice (some ⟨wr.heap.size, 0, none⟩) 0 0, u]).run Tryd.prog (wr.drew.alloc (.cells #[] 64)) = .ok (.slice q1 m1 c1) W1 ∧
      (Builtin.append_ #[27, 27] 27 #[v0, .slice (some ⟨W1.heap.size, 0, none⟩) 1 1]).run Tryd.prog (W1.alloc (.cells #[.slice q1 m1 c1] 25)) = .ok (.slice p n c) W2 ∧
      W2.cell? ⟨w1.heap.size, s, none⟩ = some v0 ∧ W2.frozen? ⟨w1.heap.size, s, none⟩ = false ∧ SplJ w1 S (fun j => if j = s then PT j ++ [r] else PT j) (W2.setCell ⟨w1.heap.size, s, none⟩ (.slice p n c)) := by
  have hd : Below wr.heap.size wr wr.drew := (Below.refl _ _).drew
  obtain ⟨u1, W1, e1, o1, g1⟩ := row_new wr wr.drew 25 u r hu hd hby
  have o1' : OwnR wr.heap.size W1 u1 r := o1
  have hb1 : Below wr.heap.size wr W1 := grown_below hd g1 (fun k h => by cases h)
  obtain ⟨p, n, c, W2, h4, h5, h6, h7⟩ := split_step2 hJ hs hb1 o1' hn hv 27
  obtain ⟨q1, m1, c1, rfl⟩ := ownR_form o1'
  exact ⟨q1, m1, c1, W1, p, n, c, W2, hb1, e1, h4, h5, h6, h7⟩
set_option maxRecDepth 100000 in
set_option maxHeartbeats 4000000 in
theorem refSplit_bad (N S R : Int) (nm : ByteArray) (pc : Option Addr) (mc cc : Nat) (cs : List Col) (pr : Option Addr) (cr : Nat) (rs : List (List Val)) (w : World) (hc : ColA w (.slice pc mc cc) cs) (hr : RowsA w pr rs) (he : splitE N S R nm cs rs ≠ 0) :
    Calls Tryd.prog 14 #[.agg #[.int .i64 N, .int .i64 S, .int .i64 R], .agg #[.string nm, .slice pc mc cc, .slice pr rs.length cr]] w fun e w' => e = .returned (.tuple #[.slice none 0 0, .int .i64 (splitE N S R nm cs rs)]) ∧ Below w.heap.size w w' := by
  have C2 : Hid (∀ W, Below w.heap.size w W → Calls Tryd.prog 32 #[.agg #[.string nm, .slice pc mc cc, .slice pr rs.length cr]] W fun e w' => e = .returned (.int .i64 (tableV nm cs rs)) ∧ Below W.heap.size W w') := fun W h => tableRef_core nm pc mc cc cs pr cr rs W (hc.below h) (hr.below h) _ (show _ = _ from rfl)
  clear hc hr
  by_cases h0 : layE N S R = 0
  · have C1 : Hid (∀ W, Calls Tryd.prog 19 #[.agg #[.int .i64 N, .int .i64 S, .int .i64 R]] W fun e w' => e = .returned (.int .i64 0) ∧ Below W.heap.size W w') := fun W => by rw [← h0]; exact refLay_any N S R W
    have e : splitE N S R nm cs rs = tableV nm cs rs := by unfold splitE; rw [if_pos h0]
    rw [e] at he ⊢
    obtain ⟨E, hE⟩ : ∃ E, tableV nm cs rs = E := ⟨_, rfl⟩
    rw [hE] at C2 he ⊢
    have hne : (E != 0) = true := bne_iff_ne.2 he
    clear e hE h0 he
    go_enter Tryd.func14, Tryd.ntmps14
    go_wp2_with fail
    refine (C1.out _).mono ?_
    rintro e w1 ⟨rfl, hb1⟩
    have y0 : w1.cell? ⟨w.heap.size + 1, 0, none⟩ = some (.string nm) := by rw [hb1.cell (by simp)]; exact two_second w _ _ _ _ _ rfl
    have y1 : w1.cell? ⟨w.heap.size + 1, 1, none⟩ = some (.slice pc mc cc) := by rw [hb1.cell (by simp)]; exact two_second w _ _ _ _ _ rfl
    have y2 : w1.cell? ⟨w.heap.size + 1, 2, none⟩ = some (.slice pr rs.length cr) := by rw [hb1.cell (by simp)]; exact two_second w _ _ _ _ _ rfl
    have HB : Hid (Below w.heap.size w w1) := (two_below w _ _).trans (hb1.mono (by simp; omega))
    clear hb1
    go_wp2_with fail
    refine (C2.out _ HB.out).mono ?_
    rintro e w2 ⟨rfl, hb2⟩
    have HB2 : Hid (Below w.heap.size w w2) := HB.out.trans (hb2.mono HB.out.size)
    clear hb2
    go_wp2_with fail
    go_ret2
    exact ⟨rfl, HB2.out⟩
  · have C1 : Hid (∀ W, Calls Tryd.prog 19 #[.agg #[.int .i64 N, .int .i64 S, .int .i64 R]] W fun e w' => e = .returned (.int .i64 2) ∧ Below W.heap.size W w') := fun W => by rw [← layE_two h0]; exact refLay_any N S R W
    have e : splitE N S R nm cs rs = 2 := by unfold splitE; rw [if_neg h0]; exact layE_two h0
    rw [e]
    clear e he h0
    go_enter Tryd.func14, Tryd.ntmps14
    go_wp2_with fail
    refine (C1.out _).mono ?_
    rintro e w1 ⟨rfl, hb1⟩
    have HB : Hid (Below w.heap.size w w1) := (two_below w _ _).trans (hb1.mono (by simp; omega))
    clear hb1
    go_wp2_with fail
    go_ret2
    exact ⟨rfl, HB.out⟩
end Go.Proofs.YthfoijnjgdeaaaaDoor
/- A table's shards: what the reference's Split answers of a right table. -/
namespace Go.Proofs.YthfoijnjgdeaaaaDoor
open Go.Shelf Go.RowKit Go.Lib Go.Sort
set_option linter.unusedVariables false
set_option linter.unusedSimpArgs false
attribute [local go_sem ↓] Go.wp_at_zero Go.wp_at_succ
set_option maxRecDepth 100000 in
set_option maxHeartbeats 2000000 in
theorem refSplit_good (N : Int) (S : Nat) (R : Int) (nm : ByteArray) (pc : Option Addr) (mc cc : Nat) (cs : List Col) (pr : Option Addr) (cr : Nat) (rs : List (List Val)) (w : World) (hc : ColA w (.slice pc mc cc) cs) (hr : RowsA w pr rs) (hk : ∀ r ∈ rs, ∀ x ∈ r, 0 ≤ x.k) (he : splitE N S R nm cs rs = 0) :
    Calls Tryd.prog 14 #[.agg #[.int .i64 N, .int .i64 S, .int .i64 R], .agg #[.string nm, .slice pc mc cc, .slice pr rs.length cr]] w fun e w' => ∃ w3, e = .returned (.tuple #[.slice (some ⟨w3.heap.size, 0, none⟩) S S, .int .i64 0]) ∧ Below w.heap.size w w3 ∧ SplJ w3 S (partOf S rs) w' := by
  have h0 : layE N S R = 0 := by
    unfold splitE at he
    by_cases h0 : layE N S R = 0
    · exact h0
    · rw [if_neg h0] at he; exact absurd he h0
  have ht : tableV nm cs rs = 0 := by unfold splitE at he; rw [if_pos h0] at he; exact he
  have hok := table_ok ht
  obtain ⟨k1, k2, k3, k4, k5, k6⟩ := layE_zero.1 h0
  have C1 : Hid (∀ W, Calls Tryd.prog 19 #[.agg #[.int .i64 N, .int .i64 S, .int .i64 R]] W fun e w' => e = .returned (.int .i64 0) ∧ Below W.heap.size W w') := fun W => by rw [← h0]; exact refLay_any N S R W
  have C2 : Hid (∀ W, Below w.heap.size w W → Calls Tryd.prog 32 #[.agg #[.string nm, .slice pc mc cc, .slice pr rs.length cr]] W fun e w' => e = .returned (.int .i64 0) ∧ Below W.heap.size W w') := fun W h => tableRef_core nm pc mc cc cs pr cr rs W (hc.below h) (hr.below h) _ ht
  have HR : Hid (RowsA w pr rs) := hr
  have HK : Hid (∀ r ∈ rs, ∀ x ∈ r, 0 ≤ x.k) := hk
  have HO : Hid (∀ r ∈ rs, r ≠ [] ∧ r.length ≤ 8 ∧ ∀ x ∈ r, x.k < 4 ∧ x.s.size ≤ 256) := hok.2
  have hn64 := hok.1
  clear hc hr hk hok ht he h0
  go_enter Tryd.func14, Tryd.ntmps14
  go_wp2_with fail
  refine (C1.out _).mono ?_
  rintro e w1 ⟨rfl, hb1⟩
  have y0 : w1.cell? ⟨w.heap.size + 1, 0, none⟩ = some (.string nm) := by rw [hb1.cell (by simp)]; exact two_second w _ _ _ _ _ rfl
  have y1 : w1.cell? ⟨w.heap.size + 1, 1, none⟩ = some (.slice pc mc cc) := by rw [hb1.cell (by simp)]; exact two_second w _ _ _ _ _ rfl
  have y2 : w1.cell? ⟨w.heap.size + 1, 2, none⟩ = some (.slice pr rs.length cr) := by rw [hb1.cell (by simp)]; exact two_second w _ _ _ _ _ rfl
  have z1 : w1.cell? ⟨w.heap.size, 1, none⟩ = some (.int .i64 S) := by rw [hb1.cell (by simp; omega)]; exact two_first w _ _ _ _ _ rfl
  have hs1 : w.heap.size + 2 ≤ w1.heap.size := by have := hb1.size; simp at this; omega
  have HB : Hid (Below w.heap.size w w1) := (two_below w _ _).trans (hb1.mono (by simp; omega))
  clear hb1
  go_wp2_with fail
  refine (C2.out _ HB.out).mono ?_
  rintro e w3 ⟨rfl, hb3⟩
  have HB3 : Hid (Below w.heap.size w w3) := HB.out.trans (hb3.mono HB.out.size)
  have x2 : w3.cell? ⟨w.heap.size + 1, 2, none⟩ = some (.slice pr rs.length cr) := by rw [hb3.cell (p := ⟨w.heap.size + 1, _, none⟩) (by show w.heap.size + 1 < _; omega)]; exact y2
  have v1 : w3.cell? ⟨w.heap.size, 1, none⟩ = some (.int .i64 S) := by rw [hb3.cell (p := ⟨w.heap.size, _, none⟩) (by show w.heap.size < _; omega)]; exact z1
  have hs3 : w.heap.size + 2 ≤ w3.heap.size := Nat.le_trans hs1 hb3.size
  clear hb3 y0 y1 y2 z1
  obtain ⟨Z, hZ, hZ0, hmk⟩ : ∃ Z : Array Value, Z.size = S ∧ (∀ j, j < S → Z[j]? = some (.slice none 0 0)) ∧ (Instr.makeSlice 36 (.int .i64 (S : Int)) (.int .i64 (S : Int))).run Tryd.prog w3 = .ok (.slice (some ⟨w3.heap.size, 0, none⟩) S S) (w3.alloc (.cells Z 27)) := by
    obtain ⟨i0, hi, hz0, hz1, hz2⟩ := infoRows
    have := run_make (P := Tryd.prog) (w := w3) 36 27 i0 _ Tryd.underlying36 hi hz0 .i64 .i64 (S : Int) (S : Int) (by omega) (by omega) (by rw [hz2]; omega) (by omega)
    rw [hz1] at this
    refine ⟨madeCells (Value.slice none 0 0).cells (S * 1), by rw [size_madeCells]; omega, fun j hj => ?_, by simpa using this⟩
    have e := toList_madeCells_one (Value.slice none 0 0) (S * 1)
    have e2 : (madeCells (Value.slice none 0 0).cells (S * 1)).toList[j]? = some (.slice none 0 0) := by
      show (madeCells #[Value.slice none 0 0] (S * 1)).toList[j]? = _
      rw [e, List.getElem?_replicate, if_pos (by omega)]
    simpa using e2
  have HJ : Hid (SplJ w3 S (PTr S rs 0 0) (w3.alloc (.cells Z 27))) := (splJ_start w3 S Z hZ hZ0 rs S).congr (fun j _ => by
    unfold PTr
    rw [if_neg (by omega)]
    by_cases e : j = 0
    · rw [if_pos e]
    · rw [if_neg e]; simp [partOf])
  obtain ⟨W3, hW3⟩ : ∃ W3, w3.alloc (.cells Z 27) = W3 := ⟨_, rfl⟩
  rw [hW3] at HJ hmk
  have X2 : Hid (∀ W, Below w3.heap.size w3 W → W.cell? ⟨w.heap.size + 1, 2, none⟩ = some (.slice pr rs.length cr)) := fun W h => by rw [h.cell (p := ⟨w.heap.size + 1, _, none⟩) (by show w.heap.size + 1 < _; omega)]; exact x2
  have V1 : Hid (∀ W, Below w3.heap.size w3 W → W.cell? ⟨w.heap.size, 1, none⟩ = some (.int .i64 S)) := fun W h => by rw [h.cell (p := ⟨w.heap.size, _, none⟩) (by show w.heap.size < _; omega)]; exact v1
  clear hZ hZ0 hW3 x2
  go_wp2_with fail
  go_loopg [24] S (fun gf s24 wx => ∃ s : Nat, s24 = .int .i64 s ∧ s ≤ S ∧ S ≤ s + gf ∧ Hid (SplJ w3 S (PTr S rs s 0) wx))
  case atStart => exact ⟨0, rfl, by omega, by omega, HJ⟩
  case round =>
    clear HJ hmk v1
    obtain ⟨s, rfl, hs1', hsf, HJ⟩ := hrel
    by_cases hsS : s < S
    · obtain ⟨g', rfl⟩ : ∃ g', gk = g' + 1 := ⟨gk - 1, by omega⟩
      have hz1 : (s : Int) < (S : Int) := by omega
      have hz0 : (0 : Int) ≤ (s : Int) := by omega
      have t2 : wr.cell? ⟨w.heap.size + 1, 2, none⟩ = some (.slice pr rs.length cr) := X2.out _ (by obtain ⟨_, _, _, _, _, h, _⟩ := HJ.out; exact h)
      obtain ⟨V0, hV0⟩ : ∃ V0 : World, V0 = wr := ⟨_, rfl⟩
      subst hV0
      go_wp2_with fail
      go_loopg [30] rs.length (fun gf s30 wx => ∃ k : Nat, s30 = .int .i64 k ∧ k ≤ rs.length ∧ rs.length ≤ k + gf ∧ Hid (SplJ w3 S (PTr S rs s k) wx))
      case atStart => exact ⟨0, rfl, by omega, by omega, HJ⟩
      case round =>
        clear HJ t2
        obtain ⟨k, rfl, hk1, hkf, HJ⟩ := hrel
        by_cases hk : k < rs.length
        · obtain ⟨g2, rfl⟩ : ∃ g2, gk = g2 + 1 := ⟨gk - 1, by omega⟩
          have hbw : Below w3.heap.size w3 wr := by obtain ⟨_, _, _, _, _, h, _⟩ := HJ.out; exact h
          obtain ⟨b, o, rfl, hB, hcell⟩ := HR.out.2 (by omega)
          obtain ⟨pu, nu, cu, r0, r1⟩ := hcell k hk
          have hBw : Below w.heap.size w wr := HB3.out.trans (hbw.mono HB3.out.size)
          rw [← hBw.cell (p := ⟨b, _, none⟩) hB] at r0
          have rrow : RowV wr (.slice pu nu cu) rs[k] := (rowA_row r1).below hBw
          obtain ⟨hne, hl8, hval⟩ := HO.out rs[k] (List.getElem_mem hk)
          have hkk := HK.out rs[k] (List.getElem_mem hk)
          have PY := PTr_yes S rs s k hk
          have PN := PTr_no S rs s k hk
          obtain ⟨r, hr⟩ : ∃ r, rs[k] = r := ⟨_, rfl⟩
          rw [hr] at rrow hne hl8 hval hkk PY PN
          obtain ⟨x, xs, rfl⟩ : ∃ x xs, r = x :: xs := by
            cases r with
            | nil => exact absurd rfl hne
            | cons x xs => exact ⟨x, xs, rfl⟩
          have hx := hval x (by simp)
          have hx0 := hkk x (by simp)
          obtain ⟨p', c', ev, hl', hp'⟩ := rrow.form
          simp only [Value.slice.injEq] at ev
          obtain ⟨rfl, rfl, rfl⟩ := ev
          obtain ⟨bb, oo, rfl, hrr, hBB⟩ := hp' (by simp)
          obtain ⟨x0, x1, x2, x3⟩ := hrr 0 (by simp)
          simp only [List.getElem_cons_zero, Nat.zero_mul, Nat.add_zero] at x0 x1 x2 x3
          have CO : Hid (∀ q : LaterS wr.heap.size wr, Calls Tryd.prog 29 #[.agg #[.int .u8 x.k, .bool x.b, .int .i64 x.n, .string x.s], .int .i64 S] q.w fun e w' => e = .returned (.int .i64 (shd S (x :: xs))) ∧ Below q.w.heap.size q.w w') := fun q => refOf_any S x q.w ⟨k3, k4⟩ hx0 (by omega) (by omega)
          have p0 : ∀ q : LaterS wr.heap.size wr, q.w.cell? ⟨bb, oo, none⟩ = some (.int .u8 x.k) := fun q => by rw [q.h.cell (p := ⟨bb, _, none⟩) hBB]; exact x0
          have p1 : ∀ q : LaterS wr.heap.size wr, q.w.cell? ⟨bb, oo + 1, none⟩ = some (.bool x.b) := fun q => by rw [q.h.cell (p := ⟨bb, _, none⟩) hBB]; exact x1
          have p2 : ∀ q : LaterS wr.heap.size wr, q.w.cell? ⟨bb, oo + 2, none⟩ = some (.int .i64 x.n) := fun q => by rw [q.h.cell (p := ⟨bb, _, none⟩) hBB]; exact x2
          have p3 : ∀ q : LaterS wr.heap.size wr, q.w.cell? ⟨bb, oo + 3, none⟩ = some (.string x.s) := fun q => by rw [q.h.cell (p := ⟨bb, _, none⟩) hBB]; exact x3
          have p4 : ∀ q : LaterS wr.heap.size wr, q.w.cell? ⟨w.heap.size, 1, none⟩ = some (.int .i64 S) := fun q => V1.out _ (hbw.trans (q.h.mono hbw.size))
          have hzl : (0 : Int) < ((x :: xs).length : Int) := by simp
          have hz2 : (0 : Int) ≤ (k : Int) := by omega
          have hz3 : (k : Int) < (rs.length : Int) := by omega
          obtain ⟨L, hL⟩ : ∃ L, (x :: xs).length = L := ⟨_, rfl⟩
          have hL8 : L ≤ 8 := by rw [← hL]; exact hl8
          have HRow : Hid (RowV wr (.slice (some ⟨bb, oo, none⟩) L cu) (x :: xs)) := by rw [← hL]; exact rrow
          have HLen : Hid ((x :: xs).length = L) := hL
          rw [hL] at r0 hzl
          obtain ⟨D, hD⟩ : ∃ D, shd S (x :: xs) = D := ⟨_, rfl⟩
          rw [hD] at CO PY PN
          clear hrr hp' rrow hne hl8 hval hkk hr hL hD x0 x1 x2 x3 r1 hcell hx hx0 hl'
          by_cases hD2 : D = (s : Int)
          · have hq : (D == (s : Int)) = true := beq_iff_eq.2 hD2
            have HP : Hid (PTr S rs s (k + 1) = fun j => if j = s then PTr S rs s k j ++ [x :: xs] else PTr S rs s k j) := PY hD2
            clear PY PN hD2
            go_wp2_with fail
            have inhL := laterInh
            refine wp_region_laterS mixedOnS (by kernel_rfl) ?_
            repeat (go_big_quiet_step ((go_at_call 29; exact calls_laterS (CO.out _))))
            refine wpQuiet_nil ?_
            intro w4 hw'
            obtain ⟨⟨wq, hwq⟩, hw''⟩ := hw'
            subst hw''
            have HJ4 : Hid (SplJ w3 S (PTr S rs s k) w4) := HJ.out.below hwq
            obtain ⟨⟨p0', n0, cc0, hv0⟩, hG⟩ := splJ_at HJ4.out hsS
            have hv0d : w4.drew.cell? ⟨w3.heap.size, s, none⟩ = some (.slice p0' n0 cc0) := hv0
            have hpl := PTr_len S rs s k
            have HRow4 : RowV w4 (.slice (some ⟨bb, oo, none⟩) L cu) (x :: xs) := HRow.out.below hwq
            obtain ⟨q1, m1, c1, W1, pv, nv, cv, W2, hbW, e1, e2, hcell', hfro', hJ6⟩ := refSplit_step HJ4.out hsS HRow4 (by rw [HLen.out]; omega) (by omega) hv0
            have hvA : (w4.drew.alloc (.cells #[] 64)).cell? ⟨w3.heap.size, s, none⟩ = some (.slice p0' n0 cc0) := by rw [World.cell?_of_block (w := w4.drew) (heap_alloc_old w4.drew _ hG)]; exact hv0
            have hvB : W1.cell? ⟨w3.heap.size, s, none⟩ = some (.slice p0' n0 cc0) := by rw [hbW.cell (p := ⟨w3.heap.size, _, none⟩) hG]; exact hv0
            have hvC : (W1.alloc (.cells #[.slice q1 m1 c1] 25)).cell? ⟨w3.heap.size, s, none⟩ = some (.slice p0' n0 cc0) := by rw [World.cell?_of_block (w := W1) (heap_alloc_old W1 _ (Nat.lt_of_lt_of_le hG hbW.size))]; exact hvB
            have HJ6 : Hid (SplJ w3 S (PTr S rs s (k + 1)) (W2.setCell ⟨w3.heap.size, s, none⟩ (.slice pv nv cv))) := by rw [HP.out]; exact hJ6
            clear hJ6 HRow4 hwq p0 p1 p2 p3 p4 HJ HJ4
            have HbW : Hid (Below w4.heap.size w4 W1) := hbW
            clear hbW
            go_wp2_with fail
            go_region_law
              ((first
                | (refine step_append25 _ rfl _ _ rfl _ _ _ _ rfl rfl e1 ?_)
                | (refine step_append27 _ rfl _ _ rfl _ _ _ _ rfl rfl e2 ?_)))
            all_goals
              generalize W2.setCell ⟨w3.heap.size, s, none⟩ (.slice pv nv cv) = W7 at HJ6 ⊢
              clear e1 e2 hcell' hfro' hv0 hv0d hvA hvB hvC HbW
              go_wp2_with fail
              go_roundg g2
              case measure => omega
              case rel => exact ⟨k + 1, by go_num, by omega, by omega, HJ6⟩
          · have hq : (D == (s : Int)) = false := beq_eq_false_iff_ne.2 hD2
            have HP : Hid (PTr S rs s (k + 1) = PTr S rs s k) := PN hD2
            clear PY PN hD2
            go_wp2_with fail
            have inhL := laterInh
            refine wp_region_laterS mixedOnS (by kernel_rfl) ?_
            repeat (go_big_quiet_step ((go_at_call 29; exact calls_laterS (CO.out _))))
            refine wpQuiet_nil ?_
            intro w4 hw'
            obtain ⟨⟨wq, hwq⟩, hw''⟩ := hw'
            subst hw''
            have HJ4 : Hid (SplJ w3 S (PTr S rs s (k + 1)) w4) := by rw [HP.out]; exact HJ.out.below hwq
            clear hwq p0 p1 p2 p3 p4 HJ
            go_wp2_with fail
            go_roundg g2
            case measure => omega
            case rel => exact ⟨k + 1, by go_num, by omega, by omega, HJ4⟩
        · have hend : k = rs.length := by omega
          have hz3 : ¬ (k : Int) < (rs.length : Int) := by omega
          have HJ2 : Hid (SplJ w3 S (PTr S rs (s + 1) 0) wr) := by rw [← PTr_next, ← hend]; exact HJ.out
          clear HJ hend
          go_wp2_with fail
          go_roundg g'
          case measure => omega
          case rel => exact ⟨s + 1, by go_num, by omega, by omega, HJ2⟩
    · have hend : s = S := by omega
      have hz1 : ¬ (s : Int) < (S : Int) := by omega
      have HF : Hid (SplJ w3 S (partOf S rs) wr) := HJ.out.congr (fun j hj => by unfold PTr; rw [if_pos (by omega)])
      clear HJ HR HK HO hend
      go_wp2_with fail
      go_ret2
      exact ⟨w3, rfl, HB3.out, HF.out⟩
end Go.Proofs.YthfoijnjgdeaaaaDoor
/- The law PlaceLays: its pieces. -/
namespace Go.Proofs.YthfoijnjgdeaaaaDoor
open Go.Shelf Go.RowKit Go.Lib Go.Sort
set_option linter.unusedVariables false
set_option linter.unusedSimpArgs false
attribute [local go_sem ↓] Go.wp_at_zero Go.wp_at_succ
theorem ownE_lay {N S R sh : Int} (h : ownE N S R sh = 0) : layE N S R = 0 ∧ 0 ≤ sh ∧ sh ≤ S - 1 := by
  unfold ownE at h
  by_cases h0 : layE N S R = 0
  · rw [if_pos h0] at h
    by_cases h1 : 0 ≤ sh ∧ sh ≤ S - 1
    · exact ⟨h0, h1⟩
    · rw [if_neg h1] at h; cases h
  · rw [if_neg h0] at h; exact absurd h h0
theorem ownE_two {N S R sh : Int} (h : ownE N S R sh ≠ 0) : ownE N S R sh = 2 := by
  unfold ownE at h ⊢
  by_cases h0 : layE N S R = 0
  · rw [if_pos h0] at h ⊢
    by_cases h1 : 0 ≤ sh ∧ sh ≤ S - 1
    · rw [if_pos h1] at h; exact absurd rfl h
    · rw [if_neg h1]
  · rw [if_neg h0]; exact layE_two h0
/-- The owners that are answered. -/
def zsO (N S R sh : Int) : List Int := if ownE N S R sh = 0 then (ownL N sh R.toNat).mergeSort (fun x y => decide (x ≤ y)) else []
theorem ints_nil (w : World) : IntsL w (.slice none 0 0) [] := ⟨none, 0, rfl, by simp, fun h => by simp at h⟩
theorem ownersAll_any (N S R sh : Int) (w : World) :
    Calls Tryd.prog 9 #[.agg #[.int .i64 N, .int .i64 S, .int .i64 R], .int .i64 sh] w fun e w' => ∃ u, e = .returned (.tuple #[u, .int .i64 (ownE N S R sh)]) ∧ IntsL w' u (zsO N S R sh) ∧ Below w.heap.size w w' := by
  by_cases h : ownE N S R sh = 0
  · obtain ⟨h0, hr⟩ := ownE_lay h
    obtain ⟨k1, k2, k3, k4, k5, k6⟩ := layE_zero.1 h0
    obtain ⟨R', rfl⟩ : ∃ R' : Nat, R = (R' : Int) := ⟨R.toNat, by omega⟩
    unfold zsO
    rw [if_pos h, h, Int.toNat_natCast]
    exact owners_good N S R' sh w h0 hr
  · refine (owners_bad N S R sh w h).mono ?_
    rintro e w' ⟨rfl, hb⟩
    unfold zsO
    rw [if_neg h]
    exact ⟨_, rfl, ints_nil _, hb⟩
theorem refOwnersAll_any (N S R sh : Int) (w : World) :
    Calls Tryd.prog 10 #[.agg #[.int .i64 N, .int .i64 S, .int .i64 R], .int .i64 sh] w fun e w' => ∃ u, e = .returned (.tuple #[u, .int .i64 (ownE N S R sh)]) ∧ IntsL w' u (zsO N S R sh) ∧ Below w.heap.size w w' := by
  by_cases h : ownE N S R sh = 0
  · obtain ⟨h0, hr⟩ := ownE_lay h
    obtain ⟨k1, k2, k3, k4, k5, k6⟩ := layE_zero.1 h0
    obtain ⟨R', rfl⟩ : ∃ R' : Nat, R = (R' : Int) := ⟨R.toNat, by omega⟩
    unfold zsO
    rw [if_pos h, h, Int.toNat_natCast]
    exact refOwners_good N S R' sh w h0 hr
  · refine (refOwners_bad N S R sh w h).mono ?_
    rintro e w' ⟨rfl, hb⟩
    unfold zsO
    rw [if_neg h, ownE_two h]
    exact ⟨_, rfl, ints_nil _, hb⟩
/-- Shards that are answered: how many, and what each is. -/
def ShJ (W : World) (p : Option Addr) (n : Nat) (PT : Nat → List (List Val)) : Prop :=
  0 < n → ∃ g, p = some ⟨g, 0, none⟩ ∧ g < W.heap.size ∧ ∀ j, j < n → ∃ q m c, W.cell? ⟨g, j, none⟩ = some (.slice q m c) ∧ RowsL W (.slice q m c) (PT j)
theorem ShJ.below {W W' : World} {p : Option Addr} {n : Nat} {PT : Nat → List (List Val)} (h : ShJ W p n PT) (hb : Below W.heap.size W W') : ShJ W' p n PT := fun h0 => by
  obtain ⟨g, rfl, hg, hc⟩ := h h0
  refine ⟨g, rfl, Nat.lt_of_lt_of_le hg hb.size, fun j hj => ?_⟩
  obtain ⟨q, m, c, h1, h2⟩ := hc j hj
  exact ⟨q, m, c, by rw [hb.cell (p := ⟨g, _, none⟩) hg]; exact h1, h2.below hb⟩
def shN (N S R : Int) (nm : ByteArray) (cs : List Col) (rs : List (List Val)) : Nat := if splitE N S R nm cs rs = 0 then S.toNat else 0
theorem SplJ.shj {w1 W : World} {S : Nat} {PT : Nat → List (List Val)} (h : SplJ w1 S PT W) (hn : ∀ j, (PT j).length ≤ 9223372036854775807) : ShJ W (some ⟨w1.heap.size, 0, none⟩) S PT := fun h0 => by
  refine ⟨_, rfl, (splJ_at h h0).2, fun j hj => ?_⟩
  obtain ⟨pa, ca, hca, hra⟩ := h.shard hj (hn j)
  exact ⟨_, _, _, hca, hra⟩
theorem splitE_ok {N S R : Int} {nm : ByteArray} {cs : List Col} {rs : List (List Val)} (he : splitE N S R nm cs rs = 0) : layE N S R = 0 ∧ rs.length ≤ 64 := by
  have h0 : layE N S R = 0 := by
    unfold splitE at he
    by_cases h0 : layE N S R = 0
    · exact h0
    · rw [if_neg h0] at he; exact absurd he h0
  exact ⟨h0, (table_ok (by unfold splitE at he; rw [if_pos h0] at he; exact he)).1⟩
theorem splitAll_any (N S R : Int) (nm : ByteArray) (pc : Option Addr) (mc cc : Nat) (cs : List Col) (pr : Option Addr) (cr : Nat) (rs : List (List Val)) (w : World) (hs : nm.size ≤ 9223372036854775807) (hT : Lib.Utf8Tabs 0 1 w) (hc : ColA w (.slice pc mc cc) cs) (hr : RowsA w pr rs) (hk : ∀ r ∈ rs, ∀ x ∈ r, 0 ≤ x.k) :
    Calls Tryd.prog 13 #[.agg #[.int .i64 N, .int .i64 S, .int .i64 R], .agg #[.string nm, .slice pc mc cc, .slice pr rs.length cr]] w fun e w' => ∃ p, e = .returned (.tuple #[.slice p (shN N S R nm cs rs) (shN N S R nm cs rs), .int .i64 (splitE N S R nm cs rs)]) ∧ Below w.heap.size w w' ∧ ShJ w' p (shN N S R nm cs rs) (partOf S rs) := by
  by_cases he : splitE N S R nm cs rs = 0
  · obtain ⟨h0, h64⟩ := splitE_ok he
    obtain ⟨k1, k2, k3, k4, k5, k6⟩ := layE_zero.1 h0
    obtain ⟨S', rfl⟩ : ∃ S' : Nat, S = (S' : Int) := ⟨S.toNat, by omega⟩
    refine (split_good N S' R nm pc mc cc cs pr cr rs w hs hT hc hr hk he).mono ?_
    rintro e w' ⟨w3, rfl, hb, hJ⟩
    have hb' : Below w3.heap.size w3 w' := by obtain ⟨_, _, _, _, _, h, _⟩ := hJ; exact h
    have en : shN N S' R nm cs rs = S' := by unfold shN; rw [if_pos he, Int.toNat_natCast]
    rw [en, he]
    exact ⟨_, rfl, hb.trans (hb'.mono hb.size), hJ.shj (fun j => Nat.le_trans (partOf_len _ _ _) (by omega))⟩
  · refine (split_bad N S R nm pc mc cc cs pr cr rs w hs hT hc hr he).mono ?_
    rintro e w' ⟨rfl, hb⟩
    have en : shN N S R nm cs rs = 0 := by unfold shN; rw [if_neg he]
    rw [en]
    exact ⟨none, rfl, hb, fun h => by omega⟩
theorem refSplitAll_any (N S R : Int) (nm : ByteArray) (pc : Option Addr) (mc cc : Nat) (cs : List Col) (pr : Option Addr) (cr : Nat) (rs : List (List Val)) (w : World) (hc : ColA w (.slice pc mc cc) cs) (hr : RowsA w pr rs) (hk : ∀ r ∈ rs, ∀ x ∈ r, 0 ≤ x.k) :
    Calls Tryd.prog 14 #[.agg #[.int .i64 N, .int .i64 S, .int .i64 R], .agg #[.string nm, .slice pc mc cc, .slice pr rs.length cr]] w fun e w' => ∃ p, e = .returned (.tuple #[.slice p (shN N S R nm cs rs) (shN N S R nm cs rs), .int .i64 (splitE N S R nm cs rs)]) ∧ Below w.heap.size w w' ∧ ShJ w' p (shN N S R nm cs rs) (partOf S rs) := by
  by_cases he : splitE N S R nm cs rs = 0
  · obtain ⟨h0, h64⟩ := splitE_ok he
    obtain ⟨k1, k2, k3, k4, k5, k6⟩ := layE_zero.1 h0
    obtain ⟨S', rfl⟩ : ∃ S' : Nat, S = (S' : Int) := ⟨S.toNat, by omega⟩
    refine (refSplit_good N S' R nm pc mc cc cs pr cr rs w hc hr hk he).mono ?_
    rintro e w' ⟨w3, rfl, hb, hJ⟩
    have hb' : Below w3.heap.size w3 w' := by obtain ⟨_, _, _, _, _, h, _⟩ := hJ; exact h
    have en : shN N S' R nm cs rs = S' := by unfold shN; rw [if_pos he, Int.toNat_natCast]
    rw [en, he]
    exact ⟨_, rfl, hb.trans (hb'.mono hb.size), hJ.shj (fun j => Nat.le_trans (partOf_len _ _ _) (by omega))⟩
  · refine (refSplit_bad N S R nm pc mc cc cs pr cr rs w hc hr he).mono ?_
    rintro e w' ⟨rfl, hb⟩
    have en : shN N S R nm cs rs = 0 := by unfold shN; rw [if_neg he]
    rw [en]
    exact ⟨none, rfl, hb, fun h => by omega⟩
theorem shN_le (N S R : Int) (nm : ByteArray) (cs : List Col) (rs : List (List Val)) : shN N S R nm cs rs ≤ 8 := by
  unfold shN
  by_cases he : splitE N S R nm cs rs = 0
  · rw [if_pos he]
    obtain ⟨k1, k2, k3, k4, k5, k6⟩ := layE_zero.1 (splitE_ok he).1
    omega
  · rw [if_neg he]; omega
/-- What a walk keeps of the two boxes. -/
def Box2 (w W : World) (N S R : Int) (nm : ByteArray) (vc vr : Value) : Prop :=
  Below w.heap.size w W ∧ w.heap.size + 2 ≤ W.heap.size ∧ W.cell? ⟨w.heap.size, 0, none⟩ = some (.int .i64 N) ∧ W.cell? ⟨w.heap.size, 1, none⟩ = some (.int .i64 S) ∧ W.cell? ⟨w.heap.size, 2, none⟩ = some (.int .i64 R) ∧
    W.cell? ⟨w.heap.size + 1, 0, none⟩ = some (.string nm) ∧ W.cell? ⟨w.heap.size + 1, 1, none⟩ = some vc ∧ W.cell? ⟨w.heap.size + 1, 2, none⟩ = some vr
theorem Box2.below {w W W' : World} {N S R : Int} {nm : ByteArray} {vc vr : Value} (h : Box2 w W N S R nm vc vr) (hb : Below W.heap.size W W') : Box2 w W' N S R nm vc vr := by
  obtain ⟨a, b, c0, c1, c2, d0, d1, d2⟩ := h
  have k : ∀ i j, i < w.heap.size + 2 → W'.cell? ⟨i, j, none⟩ = W.cell? ⟨i, j, none⟩ := fun i j hi => hb.cell (p := ⟨i, j, none⟩) (by show i < _; omega)
  refine ⟨a.trans (hb.mono a.size), Nat.le_trans b hb.size, ?_, ?_, ?_, ?_, ?_, ?_⟩
  · rw [k _ _ (by omega)]; exact c0
  · rw [k _ _ (by omega)]; exact c1
  · rw [k _ _ (by omega)]; exact c2
  · rw [k _ _ (by omega)]; exact d0
  · rw [k _ _ (by omega)]; exact d1
  · rw [k _ _ (by omega)]; exact d2
theorem Box2.start (w : World) (N S R : Int) (nm : ByteArray) (vc vr : Value) : Box2 w ((w.alloc (.cells #[.int .i64 N, .int .i64 S, .int .i64 R] 23)).alloc (.cells #[.string nm, vc, vr] 29)) N S R nm vc vr :=
  ⟨two_below w _ _, by simp, two_first w _ _ _ _ _ rfl, two_first w _ _ _ _ _ rfl, two_first w _ _ _ _ _ rfl, two_second w _ _ _ _ _ rfl, two_second w _ _ _ _ _ rfl, two_second w _ _ _ _ _ rfl⟩
end Go.Proofs.YthfoijnjgdeaaaaDoor
