/- Rows in memory of their own, and bags of rows: as at the seat of the values. -/
import Derived.Test.YthfoijnjgdeaaaaDoorPc
import Derived.Laws.CopyRow
import Derived.Laws.CopyOwn
import Derived.Laws.OwnMore
import Derived.Laws.MakeOwn
import Derived.Deep.AppendLies
import Derived.Maps.AppendAt
import Derived.Deep.Slices
namespace Go.Proofs.YthfoijnjgdeaaaaDoor
open Go.Shelf Go.RowKit Go.Lib Go.Sort
set_option linter.unusedVariables false
set_option linter.unusedSimpArgs false
attribute [local go_sem ↓] Go.wp_at_zero Go.wp_at_succ
theorem RowV.form {w : World} {v : Value} {xs : List Val} (h : RowV w v xs) : ∃ p c, v = .slice p xs.length c ∧ xs.length ≤ 9223372036854775807 ∧ (0 < xs.length → ∃ b o, p = some ⟨b, o, none⟩ ∧ RowIs w b o xs ∧ b < w.heap.size) := by
  obtain ⟨hl, ⟨p, c, rfl, rfl⟩ | ⟨b, o, c, rfl, hr, hb⟩⟩ := h
  · exact ⟨p, c, rfl, by simp, by simp⟩
  · exact ⟨_, c, rfl, hl, fun _ => ⟨b, o, rfl, hr, hb⟩⟩
/-- A list of rows that lies in memory. -/
def RowsL (w : World) (v : Value) (rs : List (List Val)) : Prop :=
  ∃ p c, v = .slice p rs.length c ∧ rs.length ≤ 9223372036854775807 ∧ (0 < rs.length → ∃ b o, p = some ⟨b, o, none⟩ ∧ b < w.heap.size ∧ ∀ j (h : j < rs.length), ∃ u, w.cell? ⟨b, o + j, none⟩ = some u ∧ RowV w u rs[j])
theorem RowsL.below {w W : World} {v : Value} {rs : List (List Val)} (h : RowsL w v rs) (hb : Below w.heap.size w W) : RowsL W v rs := by
  obtain ⟨p, c, rfl, hl, h⟩ := h
  refine ⟨p, c, rfl, hl, fun h0 => ?_⟩
  obtain ⟨b, o, rfl, hlt, hc⟩ := h h0
  refine ⟨b, o, rfl, Nat.lt_of_lt_of_le hlt hb.size, fun j hj => ?_⟩
  obtain ⟨u, h1, h2⟩ := hc j hj
  exact ⟨u, by rw [hb.cell (p := ⟨b, _, none⟩) hlt]; exact h1, h2.below hb⟩

/-- The cells of a row's values, in order. -/
def flat (xs : List Val) : List Value := xs.flatMap fun x => [.int .u8 x.k, .bool x.b, .int .i64 x.n, .string x.s]
theorem flat_length : ∀ xs : List Val, (flat xs).length = xs.length * 4
  | [] => rfl
  | x :: xs => by
    have := flat_length xs
    simp only [flat, List.flatMap_cons, List.length_append, List.length_cons, List.length_nil] at this ⊢
    omega
theorem flat_one (xs : List Val) : ∀ u ∈ flat xs, u.oneCell' = true := by
  intro u hu
  simp only [flat, List.mem_flatMap] at hu
  obtain ⟨x, _, hu⟩ := hu
  simp only [List.mem_cons, List.not_mem_nil, or_false] at hu
  rcases hu with rfl | rfl | rfl | rfl <;> rfl
theorem flat_cells {w : World} {blk : Nat} : ∀ (xs : List Val) (off : Nat), RowIs w blk off xs → ∀ j u, (flat xs)[j]? = some u → w.cell? ⟨blk, off + j, none⟩ = some u
  | [], _, _, j, u, hu => by simp [flat] at hu
  | x :: xs, off, h, j, u, hu => by
    have ih := flat_cells (w := w) (blk := blk) xs (off + 4) (fun i hi => by
      have := h (i + 1) (by simp; omega)
      rw [show off + (i + 1) * 4 = off + 4 + i * 4 by omega] at this
      simpa using this)
    have h0 := h 0 (by simp)
    simp only [Nat.zero_mul, Nat.add_zero, List.getElem_cons_zero] at h0
    match j with
    | 0 => simp [flat] at hu; subst hu; exact h0.1
    | 1 => simp [flat] at hu; subst hu; exact h0.2.1
    | 2 => simp [flat] at hu; subst hu; exact h0.2.2.1
    | 3 => simp [flat] at hu; subst hu; exact h0.2.2.2
    | j + 4 =>
      have := ih j u (by simpa [flat] using hu)
      rw [show off + (j + 4) = off + 4 + j by omega]
      exact this
theorem flat_add {w : World} {blk off : Nat} {xs : List Val} (h : RowIs w blk off xs) : ∀ j u, (flat xs)[j]? = some u → w.cell? ((⟨blk, off, none⟩ : Addr).add j) = some u := fun j u hu => by
  have hadd : (⟨blk, off, none⟩ : Addr).add j = ⟨blk, off + j, none⟩ := by unfold Addr.add; split <;> simp_all
  rw [hadd]
  exact flat_cells xs off h j u hu

theorem RowV.cells {w : World} {v : Value} {xs : List Val} (h : RowV w v xs) : ∃ p c, v = .slice p xs.length c ∧ ((p = none ∧ xs = []) ∨ (xs = [] ∧ ∃ a, p = some a) ∨ ∃ b o, p = some ⟨b, o, none⟩ ∧ b < w.heap.size ∧ ∀ j u, (flat xs)[j]? = some u → w.cell? ((⟨b, o, none⟩ : Addr).add j) = some u) := by
  obtain ⟨hl, ⟨p, c, rfl, rfl⟩ | ⟨b, o, c, rfl, hr, hb⟩⟩ := h
  · refine ⟨p, c, rfl, ?_⟩
    cases p with
    | none => exact .inl ⟨rfl, rfl⟩
    | some a => exact .inr (.inl ⟨rfl, a, rfl⟩)
  · exact ⟨_, c, rfl, .inr (.inr ⟨b, o, rfl, hb, flat_add hr⟩)⟩
theorem infoVal : ∃ i0, Tryd.prog.info? 64 = some i0 ∧ i0.zero = some (.agg #[.int .u8 0, .bool false, .int .i64 0, .string ⟨#[]⟩]) ∧ i0.size = 4 ∧ i0.bytes = 32 := by
  have h1 : (Tryd.prog.info? 64).bind (·.zero) = some (.agg #[.int .u8 0, .bool false, .int .i64 0, .string ⟨#[]⟩]) := by kernel_rfl
  have h2 : (Tryd.prog.info? 64).map (·.size) = some 4 := by kernel_rfl
  have h3 : (Tryd.prog.info? 64).map (·.bytes) = some 32 := by kernel_rfl
  generalize Tryd.prog.info? 64 = i at *
  cases i with
  | none => cases h1
  | some i => exact ⟨i, rfl, h1, Option.some.inj h2, Option.some.inj h3⟩
/-- A row that lies in memory of its own. -/
def OwnR (base : Nat) (W : World) (u : Value) (xs : List Val) : Prop := W.ownsRow base 64 4 u xs.length (flat xs)
theorem wpList_append_run {P : Program} (w : World) {ops : Array Oper} {rest : List Oper} {o : Oper} {a : Act} {Q : Exit → Act → World → Prop} (hgd : o.guard = none) (s x : Operand) (t t' : TypeId)
    (ho : o.op = .call { callee := .builtin .append, args := #[s, x], argTypes := #[t, t'] }) (vs vx v' : Value) (w' : World) (hs : a.eval s = vs) (hx : a.eval x = vx)
    (hrun : (Builtin.append_ #[t, t'] o.type #[vs, vx]).run P w = .ok v' w') (h : wpList P ops Q rest (a.put o.dst v') w') : wpList P ops Q (o :: rest) a w := by
  refine wpList_plain hgd fun K hK => ?_
  unfold Oper.wp
  simp [execOp, ho, resolve, invoke, builtin, hs, hx, hrun, Result.andThen]
  exact hK _ _ h
theorem grown_below {w1 W W' : World} {row : Option Nat} (hB : Below w1.heap.size w1 W) (hg : W.grownBy W' row) (hk : ∀ k, row = some k → w1.heap.size ≤ k) : Below w1.heap.size w1 W' :=
  ⟨hg.os.trans hB.os, hg.tape.trans hB.tape, hg.output.trans hB.output, Nat.le_trans hB.size hg.size,
    fun i hi => (hg.block i (Nat.lt_of_lt_of_le hi hB.size) (fun e => by have := hk i e.symm; omega)).trans (hB.block i hi)⟩
/-- The slice that holds rows and a row of values lie in two blocks. -/
theorem own_apart {W : World} {b b' n m : Nat} {v u : Value} {us xs : List Value} (h : W.ownsRow b 25 1 v n us) (h' : W.ownsRow b' 64 4 u m xs) : u.ownBlock = none ∨ u.ownBlock ≠ v.ownBlock := by
  obtain ⟨_, ⟨rfl, _⟩ | ⟨g, cap, cur, rfl, _, hg, _⟩⟩ := h
  · obtain ⟨_, ⟨rfl, _⟩ | ⟨g', cap', cur', rfl, _, hg', _⟩⟩ := h'
    · exact .inl rfl
    · exact .inr (by simp [Value.ownBlock])
  · obtain ⟨_, ⟨rfl, _⟩ | ⟨g', cap', cur', rfl, _, hg', _⟩⟩ := h'
    · exact .inl rfl
    · refine .inr fun e => ?_
      simp only [Value.ownBlock, Option.some.injEq] at e
      subst e
      rw [hg] at hg'
      simp at hg'
/-- append(out, r): one row more. -/
theorem rows_more (base : Nat) (W : World) (ty : TypeId) (v u : Value) (n : Nat) (us : List Value) (hv : W.ownsRow base 25 1 v n us) (h1 : u.oneCell' = true) (hbase : base ≤ W.heap.size) (hby : (n + 1) * 24 ≤ 140737488355328) :
    ∃ v' W', (Builtin.append_ #[27, 27] ty #[v, .slice (some ⟨W.heap.size, 0, none⟩) 1 1]).run Tryd.prog (W.alloc (.cells #[u] 25)) = .ok v' W' ∧ W'.ownsRow base 25 1 v' (n + 1) (us ++ [u]) ∧ W.grownBy W' v.ownBlock := by
  obtain ⟨i0, hi, hz0, hz1, hz2⟩ := info38
  have gr : W.grownBy (W.alloc (.cells #[u] 25)) v.ownBlock := World.grownBy_alloc W _ _
  obtain ⟨v', W', e, h2, h3, _, h5⟩ := run_append_own_at (P := Tryd.prog) (W.alloc (.cells #[u] 25)) base 27 ty 25 i0 _ 1 24 Tryd.underlying27 hi hz0 hz1 hz2 rfl (by omega) v n us (hv.alloc _) ⟨W.heap.size, 0, none⟩ 1 1 [u] rfl
    (cell_one_new W u 25) (by simpa using h1) (by unfold maxLen; omega) (by omega) (by simp; omega)
  exact ⟨v', W', e, h2, World.grownBy.trans gr h3⟩
theorem ownR_one {base : Nat} {W : World} {u : Value} {xs : List Val} (h : OwnR base W u xs) : u.oneCell' = true := by
  obtain ⟨_, ⟨rfl, _⟩ | ⟨g, cap, cur, rfl, _⟩⟩ := h <;> rfl
theorem flat_at : ∀ (xs : List Val) (j : Nat) (h : j < xs.length), (flat xs)[j * 4]? = some (.int .u8 xs[j].k) ∧ (flat xs)[j * 4 + 1]? = some (.bool xs[j].b) ∧ (flat xs)[j * 4 + 2]? = some (.int .i64 xs[j].n) ∧ (flat xs)[j * 4 + 3]? = some (.string xs[j].s)
  | [], _, h => by simp at h
  | x :: xs, 0, _ => by simp [flat]
  | x :: xs, j + 1, h => by
    have ih := flat_at xs j (by simpa using h)
    rw [show (j + 1) * 4 = j * 4 + 4 by omega]
    simpa [flat] using ih
theorem OwnR.row {base : Nat} {W : World} {u : Value} {xs : List Val} (h : OwnR base W u xs) : RowV W u xs := by
  obtain ⟨hl, ⟨rfl, hn⟩ | ⟨g, cap, cur, rfl, hb, hg, hnc, hcm, hcs, htake⟩⟩ := h
  · have : xs = [] := List.eq_nil_of_length_eq_zero hn
    subst this
    exact ⟨by simp, .inl ⟨none, 0, rfl, rfl⟩⟩
  · refine ⟨by unfold maxLen at hcm; omega, .inr ⟨g, 0, cap, rfl, ?_, (Array.getElem?_eq_some_iff.1 hg).1⟩⟩
    intro j hj
    have hc : ∀ k v, (flat xs)[k]? = some v → W.cell? ⟨g, 0 + k, none⟩ = some v := fun k v hk => by
      rw [← htake] at hk
      rw [Nat.zero_add]
      simp only [World.cell?, hg]
      have := List.getElem?_take (l := cur.toList) (i := xs.length * 4) (j := k)
      rw [hk] at this
      split at this
      · simpa using this.symm
      · cases this
    obtain ⟨a0, a1, a2, a3⟩ := flat_at xs j hj
    exact ⟨hc _ _ a0, hc _ _ a1, hc _ _ a2, hc _ _ a3⟩
theorem OwnR.moved {base : Nat} {w W : World} {u : Value} {xs : List Val} (h : OwnR base w u xs) (hk : ∀ k, u.ownBlock = some k → W.heap[k]? = w.heap[k]?) : OwnR base W u xs := by
  obtain ⟨hl, hn | ⟨g, cap, cur, rfl, hb, hg, rest⟩⟩ := h
  · exact ⟨hl, .inl hn⟩
  · exact ⟨hl, .inr ⟨g, cap, cur, rfl, hb, by rw [hk g rfl]; exact hg, rest⟩⟩
set_option maxRecDepth 100000 in
set_option maxHeartbeats 4000000 in
theorem ins_zero (p : Option Addr) (c : Nat) (fv : Value) (w : World) :
    Calls Tryd.prog 82 #[.slice p 0 c, .int .i64 0, .int .i64 0, fv] w fun e w' => e = .returned (.tuple #[]) ∧ Below w.heap.size w w' := by
  go_enter Tryd.func82, Tryd.ntmps82
  go_wp2
  refine wp_loop_rounds 1 ?_
  rw [rounds_succ]
  go_wp2
  go_end0
  exact ⟨rfl, Below.refl _ _⟩
set_option maxRecDepth 100000 in
set_option maxHeartbeats 4000000 in
theorem len_zero (w : World) :
    Calls Tryd.prog 45 #[.int .u64 0] w fun e w' => e = .returned (.int .i64 0) ∧ Below w.heap.size w w' := by
  go_enter Tryd.func45, Tryd.ntmps45
  go_wp2
  go_ret
  exact ⟨by kernel_rfl, Below.refl _ _⟩
set_option maxRecDepth 100000 in
set_option maxHeartbeats 4000000 in
theorem pdq_zero (p : Option Addr) (c : Nat) (fv : Value) (w : World) :
    Calls Tryd.prog 57 #[.slice p 0 c, .int .i64 0, .int .i64 0, .int .i64 0, fv] w fun e w' => e = .returned (.tuple #[]) ∧ Below w.heap.size w w' := by
  have C : Hid (∀ W, Calls Tryd.prog 82 #[.slice p 0 c, .int .i64 0, .int .i64 0, fv] W fun e w' => e = .returned (.tuple #[]) ∧ Below W.heap.size W w') := fun W => ins_zero p c fv W
  go_enter Tryd.func57, Tryd.ntmps57
  go_wp2
  refine wp_loop_rounds 1 ?_
  rw [rounds_succ]
  go_wp2_with fail
  refine (C.out _).mono ?_
  rintro e w1 ⟨rfl, hb⟩
  go_wp2
  exact bodyPost_ret (v := .tuple #[]) (by simp [results, Tryd.results57, go_sem]) rfl ⟨rfl, hb⟩
set_option maxRecDepth 100000 in
set_option maxHeartbeats 4000000 in
theorem sortF_zero (p : Option Addr) (c : Nat) (fv : Value) (w : World) :
    Calls Tryd.prog 41 #[.slice p 0 c, fv] w fun e w' => e = .returned (.tuple #[]) ∧ Below w.heap.size w w' := by
  have C1 : Hid (∀ W, Calls Tryd.prog 45 #[.int .u64 0] W fun e w' => e = .returned (.int .i64 0) ∧ Below W.heap.size W w') := len_zero
  have C2 : Hid (∀ W, Calls Tryd.prog 57 #[.slice p 0 c, .int .i64 0, .int .i64 0, .int .i64 0, fv] W fun e w' => e = .returned (.tuple #[]) ∧ Below W.heap.size W w') := fun W => pdq_zero p c fv W
  go_enter Tryd.func41, Tryd.ntmps41
  go_wp2_with fail
  refine (C1.out _).mono ?_
  rintro e w1 ⟨rfl, hb⟩
  go_wp2_with fail
  refine (C2.out _).mono ?_
  rintro e w2 ⟨rfl, hb2⟩
  go_wp2
  go_end0
  exact ⟨rfl, hb.trans (hb2.mono hb.size)⟩
set_option maxRecDepth 100000 in
set_option maxHeartbeats 4000000 in
theorem clone_zero (p : Option Addr) (c : Nat) (w : World) :
    Calls Tryd.prog 40 #[.slice p 0 c] w fun e w' => ∃ q d, e = .returned (.slice q 0 d) ∧ Below w.heap.size w w' := by
  have q := fun W => Lib.run_eql_slice_nil (P := Tryd.prog) W 27 25 p 0 c 0 0 Tryd.underlying27
  cases p with
  | none =>
    simp only [Option.isNone_none] at q
    go_enter Tryd.func40, Tryd.ntmps40
    go_wp2
    go_ret
    exact ⟨_, _, rfl, Below.refl _ _⟩
  | some a =>
    simp only [Option.isNone_some] at q
    obtain ⟨i0, hi, hz0, hz1, hz2⟩ := info38
    have hl : (loadCells a 0).run Tryd.prog (w.alloc (.cells #[] 25)) = .ok #[] (w.alloc (.cells #[] 25)) := by simpa using run_loadCells_list (P := Tryd.prog) (w.alloc (.cells #[] 25)) a [] (by simp)
    have e1 : (Builtin.append_ #[27, 27] 27 #[.slice (some ⟨w.heap.size, 0, none⟩) 0 0, .slice (some a) 0 c]).run Tryd.prog (w.alloc (.cells #[] 25)) = .ok (.slice (some ⟨w.heap.size, 0, none⟩) 0 0) (w.alloc (.cells #[] 25)) := by
      simp [Builtin.append_, run_underlying Tryd.underlying27, sizeOf, typeInfo, hi, Builtin.lenOf, Builtin.firstCells, hl, storeCells]
    have E1 : Hid _ := e1
    clear e1 hl hi hz0 hz1 hz2
    go_enter Tryd.func40, Tryd.ntmps40
    go_wp2_with (at_builtin; refine wpList_append_run _ rfl _ _ 27 27 rfl _ _ _ _ rfl rfl E1.out ?_)
    go_ret
    exact ⟨_, _, rfl, (Below.refl _ _).alloc (Nat.le_refl _) _⟩
def mkRef {w : World} (u : Value) (r : List Val) (h : RowV w u r) : RowRef w := ⟨(u, r), h⟩
theorem mkRef_vals {w : World} (u : Value) (r : List Val) (h : RowV w u r) : (mkRef u r h).vals = r := rfl
theorem mkRef_at {w : World} (u : Value) (r : List Val) (h : RowV w u r) : (mkRef u r h).at = u := rfl
/-- The rows of a list, each with its place. -/
theorem refs_of {w : World} {b o : Nat} {rs : List (List Val)} (h : ∀ j (h : j < rs.length), ∃ u, w.cell? ⟨b, o + j, none⟩ = some u ∧ RowV w u rs[j]) : ∃ xs : List (RowRef w), xs.length = rs.length ∧ xs.map RowRef.vals = rs ∧ RefsAt w b o xs := by
  refine ⟨List.ofFn fun j : Fin rs.length => mkRef (Classical.choose (h j j.2)) rs[j] (Classical.choose_spec (h j j.2)).2, by simp, ?_, ?_⟩
  · apply List.ext_getElem
    · simp
    · intro i h1 h2
      simp [mkRef_vals]
  · intro j hj
    have hj' : j < rs.length := by simpa using hj
    rw [List.getElem_ofFn, mkRef_at]
    exact (Classical.choose_spec (h j hj')).1
set_option maxRecDepth 100000 in
set_option maxHeartbeats 4000000 in
theorem sameBag_any (v1 v2 : Value) (xs ys : List (List Val)) (w : World) (h1 : RowsL w v1 xs) (h2 : RowsL w v2 ys) (hl : xs.length * 24 ≤ 140737488355328) :
    Calls Tryd.prog 24 #[v1, v2] w fun e w' => ∃ t, e = .returned (.bool t) ∧ (t = true ↔ xs.Perm ys) ∧ Below w.heap.size w w' := by
  obtain ⟨p, c, rfl, hl1, hp⟩ := h1
  obtain ⟨q, d, rfl, hl2, hq⟩ := h2
  by_cases hlen : xs.length = ys.length
  · by_cases h0 : 0 < xs.length
    · obtain ⟨b1, o1, rfl, hB1, hr1⟩ := hp h0
      obtain ⟨b2, o2, rfl, hB2, hr2⟩ := hq (by omega)
      obtain ⟨X, x1, x2, x3⟩ := refs_of hr1
      obtain ⟨Y, y1, y2, y3⟩ := refs_of hr2
      have := sameBag_some w b1 o1 c b2 o2 d X Y x3 y3 hB2 (by omega) (by omega)
      rwa [x1, y1, x2, y2] at this
    · have e1 : xs = [] := List.eq_nil_of_length_eq_zero (by omega)
      have e2 : ys = [] := List.eq_nil_of_length_eq_zero (by omega)
      subst e1 e2
      have C1 : Hid (∀ p c W, Calls Tryd.prog 40 #[.slice p 0 c] W fun e w' => ∃ q d, e = .returned (.slice q 0 d) ∧ Below W.heap.size W w') := clone_zero
      have C2 : Hid (∀ p c fv W, Calls Tryd.prog 41 #[.slice p 0 c, fv] W fun e w' => e = .returned (.tuple #[]) ∧ Below W.heap.size W w') := sortF_zero
      clear hp hq hl hl1 hl2 hlen h0
      simp only [List.length_nil]
      go_enter Tryd.func24, Tryd.ntmps24
      go_wp2_with fail
      refine (C1.out _ _ _).mono ?_
      rintro e w1 ⟨p1, d1, rfl, hb1⟩
      go_wp2_with fail
      refine (C1.out _ _ _).mono ?_
      rintro e w2 ⟨p2, d2, rfl, hb2⟩
      go_wp2_with fail
      refine (C2.out _ _ _ _).mono ?_
      rintro e w3 ⟨rfl, hb3⟩
      go_wp2_with fail
      refine (C2.out _ _ _ _).mono ?_
      rintro e w4 ⟨rfl, hb4⟩
      go_wp2_with fail
      refine (bags_zero 42 p1 p2 d1 d2 w4).mono ?_
      rintro e w5 ⟨rfl, rfl⟩
      go_wp2_with fail
      go_ret
      have h2 := hb1.trans (hb2.mono hb1.size)
      have h3 := h2.trans (hb3.mono h2.size)
      have h4 := h3.trans (hb4.mono h3.size)
      exact ⟨true, rfl, by simp, h4⟩
  · have hne : ((xs.length : Int) != (ys.length : Int)) = true := by rw [bne_iff_ne]; omega
    have HN : Hid (¬ xs.Perm ys) := fun h => hlen h.length_eq
    clear hp hq hlen
    go_enter Tryd.func24, Tryd.ntmps24
    go_wp2_with fail
    go_ret
    exact ⟨false, rfl, by simpa using HN.out, Below.refl _ _⟩
theorem own_rows {base n : Nat} {W : World} {v : Value} {us : List Value} {rs : List (List Val)} (hv : W.ownsRow base 25 1 v n us) (hn : rs.length = n) (hl : rs.length ≤ 9223372036854775807) (hr : ∀ j (h : j < rs.length), ∃ u, us[j]? = some u ∧ RowV W u rs[j]) : RowsL W v rs := by
  subst hn
  obtain ⟨hl', ⟨rfl, h0⟩ | ⟨g, cap, cur, rfl, hbg, hg, hnc, hcm, hcs, htake⟩⟩ := hv
  · exact ⟨none, 0, by rw [h0], hl, fun h => by omega⟩
  · refine ⟨_, cap, rfl, hl, fun _ => ⟨g, 0, rfl, (Array.getElem?_eq_some_iff.1 hg).1, fun j hj => ?_⟩⟩
    obtain ⟨u, h1, h2⟩ := hr j hj
    refine ⟨u, ?_, h2⟩
    rw [← htake] at h1
    rw [Nat.zero_add]
    simp only [World.cell?, hg]
    have := List.getElem?_take (l := cur.toList) (i := rs.length * 1) (j := j)
    rw [h1] at this
    split at this
    · simpa using this.symm
    · cases this
theorem rowV_one {w : World} {u : Value} {xs : List Val} (h : RowV w u xs) : u.oneCell' = true := by
  obtain ⟨p, n, c, rfl⟩ := h.slice; rfl
/-- append(v, l...): all rows of l behind those of v. -/
theorem rows_onto (base : Nat) (w W : World) (ty : TypeId) (v vl : Value) (n : Nat) (us : List Value) (rs : List (List Val)) (hv : W.ownsRow base 25 1 v n us) (hl : RowsL w vl rs) (hB : Below w.heap.size w W) (hbase : base ≤ W.heap.size) (hby : (n + rs.length) * 24 ≤ 140737488355328) :
    ∃ v' W' hs, (Builtin.append_ #[27, 27] ty #[v, vl]).run Tryd.prog W = .ok v' W' ∧ W'.ownsRow base 25 1 v' (n + rs.length) (us ++ hs) ∧ hs.length = rs.length ∧ (∀ j (h : j < rs.length), ∃ u, hs[j]? = some u ∧ RowV w u rs[j]) ∧ W.grownBy W' v.ownBlock := by
  obtain ⟨i0, hi, hz0, hz1, hz2⟩ := info38
  obtain ⟨p, c, rfl, hll, hp⟩ := hl
  cases p with
  | none =>
    have h0 : rs = [] := by
      cases rs with
      | nil => rfl
      | cons r rs => obtain ⟨b, o, e, _⟩ := hp (by simp); cases e
    subst h0
    refine ⟨v, W, [], ?_, by simpa using hv, rfl, fun j h => by simp at h, ⟨rfl, rfl, rfl, Nat.le_refl _, fun _ _ _ => rfl⟩⟩
    obtain ⟨hl', ⟨rfl, h0⟩ | ⟨g, cap, cur, rfl, hbg, hg, hnc, hcm, hcs, htake⟩⟩ := hv
    · simp [Builtin.append_, run_underlying Tryd.underlying27, sizeOf, typeInfo, hi, Builtin.lenOf, Builtin.firstCells, loadCells, loadCellsFrom, storeCells]
    · have h9 : ¬ (9223372036854775807 < n) := by unfold maxLen at hcm; omega
      have h8 : ¬ cap < n := by omega
      simp [Builtin.append_, run_underlying Tryd.underlying27, sizeOf, typeInfo, hi, Builtin.lenOf, Builtin.firstCells, loadCells, loadCellsFrom, storeCells, h9, h8, hnc]
  | some a =>
    have hnews : ∃ hs : List Value, hs.length = rs.length ∧ (∀ j u, hs[j]? = some u → W.cell? (a.add j) = some u) ∧ (∀ u ∈ hs, u.oneCell' = true) ∧ ∀ j (h : j < rs.length), ∃ u, hs[j]? = some u ∧ RowV w u rs[j] := by
      by_cases h0 : 0 < rs.length
      · obtain ⟨b, o, e, hlt, hc⟩ := hp h0
        obtain rfl := Option.some.inj e
        haveI : Inhabited Value := ⟨.slice none 0 0⟩
        have hc' : ∀ j, j < rs.length → ∃ u, w.cell? ⟨b, o + j, none⟩ = some u ∧ RowV w u rs[j]! := fun j hj => by
          obtain ⟨u, h1, h2⟩ := hc j hj
          exact ⟨u, h1, by rw [getElem!_pos rs j hj]; exact h2⟩
        obtain ⟨U, hU⟩ := Deep.choose_lt hc'
        refine ⟨(List.range rs.length).map U, by simp, fun j u hu => ?_, fun u hu => ?_, fun j hj => ?_⟩
        · rw [List.getElem?_map] at hu
          by_cases hj : j < rs.length
          · rw [List.getElem?_range hj] at hu
            simp only [Option.map_some, Option.some.injEq] at hu
            subst hu
            have hadd : (⟨b, o, none⟩ : Addr).add j = ⟨b, o + j, none⟩ := by unfold Addr.add; split <;> simp_all
            rw [hadd, hB.cell (p := ⟨b, _, none⟩) hlt]
            exact (hU j hj).1
          · rw [List.getElem?_eq_none (by simp; omega)] at hu; cases hu
        · simp only [List.mem_map, List.mem_range] at hu
          obtain ⟨j, hj, rfl⟩ := hu
          exact rowV_one (hU j hj).2
        · refine ⟨U j, by rw [List.getElem?_map, List.getElem?_range hj]; rfl, ?_⟩
          have := (hU j hj).2
          rwa [getElem!_pos rs j hj] at this
      · have e : rs = [] := List.eq_nil_of_length_eq_zero (by omega)
        subst e
        exact ⟨[], rfl, by simp, by simp, fun j h => by simp at h⟩
    obtain ⟨hs, hlen, hcell, hone, hrow⟩ := hnews
    obtain ⟨v', W', e, h2, h3, _, h5⟩ := run_append_own_at (P := Tryd.prog) W base 27 ty 25 i0 _ 1 24 Tryd.underlying27 hi hz0 hz1 hz2 rfl (by omega) v n us hv a rs.length c hs (by omega) hcell hone (by unfold maxLen; omega) (by omega) hbase
    exact ⟨v', W', hs, e, h2, hlen, hrow, h3⟩
theorem sameBag_is (v1 v2 : Value) (xs ys : List (List Val)) (w : World) (h1 : RowsL w v1 xs) (h2 : RowsL w v2 ys) (hl : xs.length * 24 ≤ 140737488355328) (t : Bool) (ht : t = true ↔ xs.Perm ys) :
    Calls Tryd.prog 24 #[v1, v2] w fun e w' => e = .returned (.bool t) ∧ Below w.heap.size w w' :=
  (sameBag_any v1 v2 xs ys w h1 h2 hl).mono fun e w' ⟨t', he, ht', hb⟩ => ⟨by rw [he]; congr 2; cases t <;> cases t' <;> simp_all, hb⟩
end Go.Proofs.YthfoijnjgdeaaaaDoor
