/- Rows that are cut: what Cut answers. -/
import Derived.Test.YtcmiphgeakdonaaAv
namespace Go.Proofs.Ytcmiphgeakdonaa
open Go.Shelf Go.RowKit Go.Lib Go.Sort
set_option linter.unusedVariables false
set_option linter.unusedSimpArgs false
attribute [local go_sem ↓] Go.wp_at_zero Go.wp_at_succ
attribute [local go_sem] Oper.semAt_some
def IsC (W : World) (b : Nat) : Prop := ∃ cur t fz, W.heap[b]? = some (.cells cur t fz)
theorem isC_cell {W : World} {b k : Nat} {u : Value} (h : W.cell? ⟨b, k, none⟩ = some u) : IsC W b := by
  unfold World.cell? at h
  split at h
  · rename_i c t fz hb
    exact ⟨c, t, fz, hb⟩
  · cases h
theorem list_isC {α : Type} {rel : Rel α} {size bytes : Nat} {K : Nat → Prop} {W : World} {v : Value} {xs : List α} (hs : 0 < size) (hr : ∀ cs x, rel K W cs x → rel (fun b => K b ∧ IsC W b) W cs x) (h : ListIs rel size bytes K W v xs) : ListIs rel size bytes (fun b => K b ∧ IsC W b) W v xs := by
  obtain ⟨q, c, rfl, hb, hp⟩ := h
  refine ⟨q, c, rfl, hb, fun h0 => ?_⟩
  obtain ⟨b, o, rfl, hKb, hc⟩ := hp h0
  obtain ⟨cs, h1, h2, _⟩ := hc 0 h0
  have hC : IsC W b := isC_cell (h2 0 cs[0] (List.getElem?_eq_getElem (by omega)))
  refine ⟨b, o, rfl, ⟨hKb, hC⟩, fun j hj => ?_⟩
  obtain ⟨cs, h1, h2, h3⟩ := hc j hj
  exact ⟨cs, h1, h2, hr _ _ h3⟩
theorem row_isC {K : Nat → Prop} {W : World} (cs : List Value) (x : List Val) (h : rRow K W cs x) : rRow (fun b => K b ∧ IsC W b) W cs x := by
  obtain ⟨v, rfl, hl⟩ := h
  exact ⟨v, rfl, list_isC (by decide) (fun cs x h => h) hl⟩
theorem bch_isC {K : Nat → Prop} {W : World} (cs : List Value) (x : List (List Val)) (h : rBch K W cs x) : rBch (fun b => K b ∧ IsC W b) W cs x := by
  obtain ⟨v, rfl, hl⟩ := h
  exact ⟨v, rfl, list_isC (by decide) row_isC hl⟩
/-- Where blocks of cells stay. -/
theorem OwnR.cellsKept {base : Nat} {W W' : World} {u : Value} {xs : List (List (List Val))} (h : OwnR rBch 1 30 base W u xs) (hs : W.heap.size ≤ W'.heap.size) (ho : W'.os = W.os) (ht : W'.tape = W.tape) (hp : W'.output = W.output) (hc : ∀ b, IsC W b → W'.heap[b]? = W.heap[b]?) : OwnR rBch 1 30 base W' u xs := by
  obtain ⟨K, cells, hK, o, r⟩ := h
  refine ⟨fun b => K b ∧ IsC W b, cells, fun b hb => ⟨(hK b hb.1).1, Nat.lt_of_lt_of_le (hK b hb.1).2.1 hs, (hK b hb.1).2.2⟩, ?_, fun j hj => mBch _ _ _ _ _ _ (fun _ h => h) ⟨ho, ht, hp, hs, fun b hb => hc b hb.2⟩ (bch_isC _ _ (r j hj))⟩
  obtain ⟨hl, hh | ⟨g, cap, cur, rfl, h1, hg, rr⟩⟩ := o
  · exact ⟨hl, .inl hh⟩
  · exact ⟨hl, .inr ⟨g, cap, cur, rfl, h1, (hc g ⟨cur, 30, (0, 0), hg⟩).trans hg, rr⟩⟩
/-- How it stands between two rounds. -/
structure CutI (s : Strm) (K : Nat → Prop) (W00 : World) (w wL : World) (pre : List (Piece K W00)) (W : World) : Prop where
  box : ∃ p c, W.heap[w.heap.size + 1 + 1]? = some (.cells #[.int .u64 (s.qb : Int), .int .u64 (s.qn : Int), .int .i64 s.at_, .int .i64 s.fr, .int .i64 s.tq, .slice p pre.length c, .int .u64 0] 29 (0, 0)) ∧ OwnR rBch 1 30 wL.heap.size W (.slice p pre.length c) (pre.map (·.1.2))
  res : W.heap[w.heap.size + 1]? = some (.cells #[.int .u64 0, .int .u64 0, .int .i64 0, .int .i64 0, .int .i64 0, .slice none 0 0, .int .u64 0] 29 (0, 0))
  bel : Below w.heap.size w W
  size : wL.heap.size ≤ W.heap.size
theorem CutI.own (s : Strm) (K : Nat → Prop) (W00 w wL : World) (hL : w.heap.size ≤ wL.heap.size) : OwnFrom wL.heap.size (CutI s K W00 w wL) := by
  intro pre W W' row h hg hr
  have hc : ∀ b, IsC W b → W'.heap[b]? = W.heap[b]? := fun b hb => by
    obtain ⟨cur, t, fz, e⟩ := hb
    refine hg.block b (Array.getElem?_eq_some_iff.1 e).1 (fun e2 => ?_)
    obtain ⟨_, o, h1, h2⟩ := hr b e2.symm
    rw [e] at h1; cases h1; cases h2
  obtain ⟨p, c, hb, hO⟩ := h.box
  refine ⟨⟨p, c, (hc _ ⟨_, _, _, hb⟩).trans hb, hO.cellsKept hg.size hg.os hg.tape hg.output hc⟩, (hc _ ⟨_, _, _, h.res⟩).trans h.res, ⟨hg.os.trans h.bel.os, hg.tape.trans h.bel.tape, hg.output.trans h.bel.output, Nat.le_trans h.bel.size hg.size, fun b hb => ?_⟩, Nat.le_trans h.size hg.size⟩
  refine (hg.block b (Nat.lt_of_lt_of_le hb h.bel.size) (fun e => ?_)).trans (h.bel.block b hb)
  obtain ⟨h1, _⟩ := hr b e.symm
  omega
theorem wpIn_append_run {F : Fence} {n : Nat} {op : Oper} {a : Act} {w : World} {K : Act → World → Prop} {Q : Exit → Act → World → Prop} (hF : ∀ f, F.fn f) (x y : Operand) (t u : TypeId) (ho : op.op = .call { callee := .builtin .append, args := #[x, y], argTypes := #[t, u] }) (v1 v2 : Value) (hx : a.eval x = v1) (hy : a.eval y = v2) (v' : Value) (w' : World) (hr : (Builtin.append_ #[t, u] op.type #[v1, v2]).run Try.prog w = .ok v' w') (h : K (a.put op.dst v') w') : Oper.wpIn F n Try.prog op a w K Q := by
  refine ⟨fun f _ => hF f, ?_⟩
  rw [Oper.semAt_eq _ _ _ (by simp [ho])]
  unfold execOp
  simp only [ho, resolve, invoke, builtin, Sem.run_bind, Sem.run_pure, Result.andThen_ok, List.map_toArray, List.map_cons, List.map_nil, hx, hy, hr]
  exact h
theorem chunkP_len {α : Type} : ∀ (n : Nat) (l : List α), l.length ≤ n → (chunkP l).length ≤ l.length + 1
  | 0, l, h => by rw [chunkP_last (by omega)]; simp
  | n + 1, l, h => by
    by_cases h8 : 8 < l.length
    · rw [chunkP_more h8, List.length_cons]
      have := chunkP_len n (l.drop 8) (by simp; omega)
      simp only [List.length_drop] at this
      omega
    · rw [chunkP_last h8]; simp
theorem wpListIn_load_midW {n : Nat} {P : Program} {ops : Array Oper} {rest : List Oper} {op : Oper} {a : Act} {w : World} {Q : Exit → Act → World → Prop} (hgd : op.guard = none) (ty : TypeId) (x : Operand) (ho : op.op = .load ty x) (b o : Nat) (hx : a.eval x = .pointer (some ⟨b, o, none⟩)) (cs : List Value) (d : TypeDesc) (hc : w.rangeAt b o cs)
    (hu : P.underlying ty = some d) (hd : d.isRow = true) (hi : (P.info? ty).map (·.size) = some cs.length) (h : wpListIn Fence.wide n P ops Q rest (a.put op.dst (.agg cs.toArray)) w) : wpListIn Fence.wide n P ops Q (op :: rest) a w :=
  wpListIn_plain hgd fun K hK => ⟨fun _ _ => trivial, by
    rw [Oper.semAt_eq _ _ _ (by simp [ho])]
    unfold execOp
    simp only [ho, hx, Instr.loadAt, Instr.sureAddr, Sem.run_bind, Sem.run_pure, Result.andThen_ok, run_loadVar_mid w b o ty cs d hc hu hd hi]
    exact hK _ _ h⟩
theorem wpListIn_store_midW {n : Nat} {P : Program} {ops : Array Oper} {rest : List Oper} {op : Oper} {a : Act} {w : World} {Q : Exit → Act → World → Prop} (hgd : op.guard = none) (ty : TypeId) (x y : Operand) (ho : op.op = .store ty x y) (b o : Nat) (cells : Array Value) (hx : a.eval x = .pointer (some ⟨b, o, none⟩)) (hy : a.eval y = .agg cells)
    (ht : w.there b o cells.size) (hi : (P.info? ty).map (·.size) = some cells.size) (h1 : cells.all (·.oneCell') = true) (h : wpListIn Fence.wide n P ops Q rest (a.put op.dst undef) (w.setCells b o cells.toList)) : wpListIn Fence.wide n P ops Q (op :: rest) a w :=
  wpListIn_plain hgd fun K hK => ⟨fun _ _ => trivial, by
    rw [Oper.semAt_eq _ _ _ (by simp [ho])]
    unfold execOp
    simp only [ho, hx, hy, Instr.storeAt, Instr.sureAddr, Sem.run_bind, Sem.run_pure, Result.andThen_ok, run_storeVar_mid w b o ty cells ht hi h1]
    exact hK _ _ h⟩
def CutR (w : World) (s : Strm) (rows : List (List Val)) (e : Ending) (w' : World) : Prop := ∃ cs', e = .returned (.tuple #[.agg cs'.toArray, .int .i64 (if 4096 < rows.length then 3 else 0)]) ∧ rOut (From w.heap.size w') w' cs' (if 4096 < rows.length then ⟨⟨0, 0, 0, 0, 0⟩, [], 0⟩ else ⟨s, chunkP rows, 0⟩) ∧ Below w.heap.size w w'
set_option maxRecDepth 100000 in
set_option maxHeartbeats 4000000 in
theorem cut_any (s : Strm) (v : Value) (rows : List (List Val)) (K : Nat → Prop) (w : World) (hs : okS s) (h : ListIs rRow 1 24 K w v rows) (hK : ∀ b, K b → b < w.heap.size) :
    Calls Try.prog 6 #[.agg #[.int .u64 (s.qb : Int), .int .u64 (s.qn : Int), .int .i64 s.at_, .int .i64 s.fr, .int .i64 s.tq], v] w fun e w' => CutR w s rows e w' := by
  obtain ⟨q, c, rfl, hby, -⟩ := id h
  have hr63 : rows.length ≤ 5864062014806 := by omega
  refine (callsIn_wide (n := 3)).1 ?_
  have h1 : 1 ≤ 3 := by omega
  have h8 : Fence.wide.fn 8 := trivial
  refine callsIn_of_wp_marks Try.func6 rfl h8 ?_ rfl
  simp only [Try.ntmps6, List.size_toArray, List.length_cons, List.length_nil, Nat.reduceAdd, Nat.reduceSub, Array.replicate_succ, Array.replicate_zero, List.push_toArray, List.append_toArray, List.nil_append, List.cons_append]
  by_cases hbig : 4096 < rows.length
  · have z : (4096 : Int) < (rows.length : Int) := by omega
    gi_wp2
    obtain ⟨W0, hW0, hb0, hs0, g0, g1⟩ := two_boxes2 w #[.int .u64 (s.qb : Int), .int .u64 (s.qn : Int), .int .i64 s.at_, .int .i64 s.fr, .int .i64 s.tq] #[.int .u64 0, .int .u64 0, .int .i64 0, .int .i64 0, .int .i64 0, .slice none 0 0, .int .u64 0] 26 29
    have HLD : Hid ((loadVar 29 ⟨w.heap.size + 1, 0, none⟩).run Try.prog W0 = .ok (.agg #[.int .u64 0, .int .u64 0, .int .i64 0, .int .i64 0, .int .i64 0, .slice none 0 0, .int .u64 0]) W0) := run_loadVar_mid W0 _ 0 29 [.int .u64 0, .int .u64 0, .int .i64 0, .int .i64 0, .int .i64 0, .slice none 0 0, .int .u64 0] _ (fun j u hu => by rw [Nat.zero_add]; exact cell_of_row g1 (by simpa using hu)) Try.underlying29 rfl sz_Out
    have HFI : Hid (CutR w s rows (.returned (.tuple #[.agg #[.int .u64 0, .int .u64 0, .int .i64 0, .int .i64 0, .int .i64 0, .slice none 0 0, .int .u64 0], .int .i64 3])) W0) := by
      refine ⟨[.int .u64 0, .int .u64 0, .int .i64 0, .int .i64 0, .int .i64 0, .slice none 0 0, .int .u64 0], by rw [if_pos hbig], ?_, hb0⟩
      rw [if_pos hbig]
      exact ⟨_, rfl, ⟨⟨⟨by show (0:Nat) < _; omega, by show (0:Nat) < _; omega⟩, ⟨by show _ ≤ (0:Int); omega, by show (0:Int) ≤ _; omega⟩, ⟨by show _ ≤ (0:Int); omega, by show (0:Int) ≤ _; omega⟩, ⟨by show _ ≤ (0:Int); omega, by show (0:Int) ≤ _; omega⟩⟩, by show (0:Nat) < _; omega⟩, ⟨none, 0, rfl, ⟨by simp, by simp⟩, fun h => by simp at h⟩⟩
    rw [hW0]
    exact ⟨_, by simp only [results, Try.results6]; simp [asAddr, Act.put, HLD.out], HFI.out⟩
  · have z : ¬ (4096 : Int) < (rows.length : Int) := by omega
    gi_wp2_with fail
    refine ⟨trivial, ?_⟩
    refine (callsIn_wide.2 (chunks_any _ _ _ _)).mono ?_
    rintro e w' ⟨rfl, rfl⟩
    gi_wp2_with fail
    obtain ⟨W0, hW0, hb0, hs0, g0, g1, g2⟩ := three_boxes w #[.int .u64 (s.qb : Int), .int .u64 (s.qn : Int), .int .i64 s.at_, .int .i64 s.fr, .int .i64 s.tq] #[.int .u64 0, .int .u64 0, .int .i64 0, .int .i64 0, .int .i64 0, .slice none 0 0, .int .u64 0] #[.int .u64 (s.qb : Int), .int .u64 (s.qn : Int), .int .i64 s.at_, .int .i64 s.fr, .int .i64 s.tq, .slice none 0 0, .int .u64 0] 26 29 29
    rw [hW0]
    obtain ⟨wL, hwL, hbL, hgL, hsL⟩ := one_box W0 (.slice q rows.length c) 30
    rw [hwL]
    have hsW : W0.heap.size = w.heap.size + 1 + 1 + 1 := by omega
    have hbLw : Below w.heap.size w wL := hb0.trans (hbL.mono hb0.size)
    have hI0 : CutI s K w w wL [] wL := ⟨⟨none, 0, (hbL.block _ (by omega)).trans g2, OwnR.none (World.ownsRow_nil _ _ _ _)⟩, (hbL.block _ (by omega)).trans g1, hbLw, Nat.le_refl _⟩
    have hKw := hK
    refine wpIn_rangeFunc_ownF (F := Fence.wide) rfl h1 (gf := 44) (lb := #[.pointer (some ⟨w.heap.size + 1 + 1 + 1, 0, none⟩)]) rfl trivial (enters_of Try.func44 (by kernel_rfl) rfl)
      (iter_stops 2 (by omega) (w.heap.size + 1 + 1 + 1) K w q c rows h wL (by omega) (by rw [← hsW]; exact cell_of_row (k := 0) hgL rfl)) (fun _ _ => trivial) (fun _ _ _ _ _ _ _ _ => trivial) (Below.refl _ _) (fun _ => rfl)
      (CutI s K w w wL) (fun _ _ _ => False) (CutI.own s K w w wL (by omega)) (fun _ _ _ _ _ hs _ _ => hs) hI0
      (fun x => { tmps := #[.agg #[.int .u64 (s.qb : Int), .int .u64 (s.qn : Int), .int .i64 s.at_, .int .i64 s.fr, .int .i64 s.tq], .slice q rows.length c, .pointer (some ⟨w.heap.size, 0, none⟩), undef, .pointer (some ⟨w.heap.size + 1, 0, none⟩), .int .i64 0, .pointer (some ⟨w.heap.size + 1 + 1, 0, none⟩), x.1.1, .slice q rows.length c, .int .i64 (rows.length : Int), .bool false, undef, .agg #[.int .u64 (s.qb : Int), .int .u64 (s.qn : Int), .int .i64 s.at_, .int .i64 s.fr, .int .i64 s.tq], .agg #[.int .u64 (s.qb : Int), .int .u64 (s.qn : Int), .int .i64 s.at_, .int .i64 s.fr, .int .i64 s.tq, .slice none 0 0, .int .u64 0], .slice q rows.length c, .func (.func 44) #[] #[.pointer (some ⟨w.heap.size + 1 + 1 + 1, 0, none⟩)], x.1.1, undef, undef, undef, undef, undef, undef, undef, undef], defers := [] }) ?assign ?body ?done ?stop
    case assign =>
      intro l x W K hK
      gi_wp2
      exact hK
    case body =>
      rintro l pre ⟨⟨xv, xr⟩, px, cx, hxe, hxl⟩ W hI hlen
      have hxe' : xv = .slice px xr.length cx := hxe
      subst hxe'
      obtain ⟨x, hx⟩ : ∃ x : Piece K w, x = ⟨(.slice px xr.length cx, xr), ⟨px, cx, hxe, hxl⟩⟩ := ⟨_, rfl⟩
      rw [← hx]
      have hx2 : x.1.2 = xr := by rw [hx]
      obtain ⟨p, cc, hb, hO⟩ := hI.box
      have hxlw : ListIs rRow 1 24 K W.drew (.slice px xr.length cx) xr := ListIs.mono mRow (fun _ h => h) (kept_of hKw hI.bel.drew) hxl
      have C18 : Hid (Calls Try.prog 27 #[.slice px xr.length cx] W.drew fun e w' => CpP rRow 1 24 xr W.drew e w') := f_rows K W.drew _ _ hxlw (fun b hb => Nat.lt_of_lt_of_le (hKw b hb) hI.bel.size)
      have b0 : W.cell? ⟨w.heap.size + 1 + 1, 5, none⟩ = some (.slice p pre.length cc) := cell_of_row (k := 5) hb rfl
      have sW := hI.size
      have sB := (Array.getElem?_eq_some_iff.1 hb).1
      have HNX : Hid (∀ (w5 : World) (p5 : Option Addr) (c5 : Nat), ListIs rRow 1 24 (From W.drew.heap.size w5) w5 (.slice p5 xr.length c5) xr → Below W.drew.heap.size W.drew w5 →
          ∃ p6 c6 X2, (Builtin.append_ #[27, 27] 27 #[.slice p pre.length cc, .slice (some ⟨w5.heap.size, 0, none⟩) 1 1]).run Try.prog (w5.alloc (.cells #[.slice p5 xr.length c5] 30)) = .ok (.slice p6 (pre.length + 1) c6) X2 ∧ w5.cell? ⟨w.heap.size + 1 + 1, 5, none⟩ = some (.slice p pre.length cc) ∧ (w5.alloc (.cells #[.slice p5 xr.length c5] 30)).cell? ⟨w.heap.size + 1 + 1, 5, none⟩ = some (.slice p pre.length cc) ∧ X2.cell? ⟨w.heap.size + 1 + 1, 5, none⟩ = some (.slice p pre.length cc) ∧ X2.frozen? ⟨w.heap.size + 1 + 1, 5, none⟩ = false ∧
            ∃ X3, X2.setCell ⟨w.heap.size + 1 + 1, 5, none⟩ (.slice p6 (pre.length + 1) c6) = X3 ∧ KeepsOthers W X3 ∧ True ∧ CutI s K w w wL (pre ++ [x]) X3) := fun w5 p5 c5 hl5 hb5 => by
        have hb5' : Below W.heap.size W w5 := (Below.refl _ W).drew.trans hb5
        have s5 := hb5'.size
        have hg5 := (hb5'.block _ sB).trans hb
        obtain ⟨j0, hj0, hj1, hj2, hj3⟩ := inE_bch
        have hO5 : OwnR rBch 1 30 wL.heap.size w5 (.slice p pre.length cc) (pre.map (·.1.2)) := hO.keep mBch hb5'
        obtain ⟨v', X2, e2, hJ2, hb2, hs2, ho2⟩ := OwnR.push mBch Try.underlying27 hj0 hj1 hj2 hj3 rfl (by omega) hO5 (by omega) (cs := [.slice p5 xr.length c5]) (x := xr) (K2 := From W.drew.heap.size w5) rfl (fun c hc => by simp at hc; subst hc; rfl)
          (fun b hb' => ⟨by have := hb'.1; have e : W.drew.heap.size = W.heap.size := rfl; omega, hb'.2, fun e => by have := (hO.block b e).2; have := hb'.1; have e : W.drew.heap.size = W.heap.size := rfl; omega⟩) ⟨_, rfl, hl5⟩ (by rw [List.length_map]; omega) (by rw [List.length_map]; unfold maxLen; omega)
        obtain ⟨p6, c6, rfl⟩ := hJ2.slice
        rw [List.length_append, List.length_map] at e2 hJ2
        simp only [List.length_cons, List.length_nil, Nat.zero_add] at e2 hJ2
        have hgX2 : X2.heap[w.heap.size + 1 + 1]? = some (.cells #[.int .u64 (s.qb : Int), .int .u64 (s.qn : Int), .int .i64 s.at_, .int .i64 s.fr, .int .i64 s.tq, .slice p pre.length cc, .int .u64 0] 29 (0, 0)) := (ho2 _ (by omega) (fun e => by have := (hO5.block _ e).1; omega)).trans hg5
        obtain ⟨X3, hX3, hc7, hf7, hg3, hs3, hk3⟩ := box_put (cl := [.int .u64 (s.qb : Int), .int .u64 (s.qn : Int), .int .i64 s.at_, .int .i64 s.fr, .int .i64 s.tq, .slice p pre.length cc, .int .u64 0]) hgX2 (k := 5) (u := .slice p pre.length cc) rfl (.slice p6 (pre.length + 1) c6)
        refine ⟨p6, c6, X2, e2, cell_of_row (k := 5) hg5 rfl, (World.cell?_of_block (hao w5 _ (w.heap.size + 1 + 1) (by omega))).trans (cell_of_row (k := 5) hg5 rfl), hc7, hf7, X3, hX3, ?_, trivial, ?_⟩
        · refine ⟨by omega, fun k o ho hco => ?_⟩
          have hk := (Array.getElem?_eq_some_iff.1 ho).1
          have n1 : k ≠ w.heap.size + 1 + 1 := fun e => by rw [e, hb] at ho; cases ho; cases hco
          refine (hk3.block k n1).trans ((ho2 k (by omega) (fun e => ?_)).trans ((hb5'.block k hk).trans ho))
          obtain ⟨_, _, _, oo, _⟩ := hO
          obtain ⟨_, ⟨e3, _⟩ | ⟨g, cap, cur, e3, _, hg, _⟩⟩ := oo
          · rw [e3] at e; simp [Value.ownBlock] at e
          · rw [e3] at e
            have : g = k := by simpa [Value.ownBlock] using e
            subst this
            rw [hg] at ho; cases ho; cases hco
        · have hbelw : Below w.heap.size w X2 := hb2 w.heap.size w (hI.bel.trans (hb5'.mono hI.bel.size)) (by omega)
          have hl2 : (pre ++ [x]).length = pre.length + 1 := by simp
          refine ⟨⟨p6, c6, by rw [hl2]; exact hg3, ?_⟩, ?_, ⟨hk3.os.trans hbelw.os, hk3.tape.trans hbelw.tape, hk3.output.trans hbelw.output, by have := hbelw.size; omega, fun b hb' => (hk3.block b (by show b ≠ _; omega)).trans (hbelw.block b hb')⟩, by omega⟩
          · rw [hl2, List.map_append, List.map_cons, List.map_nil, hx2]
            exact hJ2.kept mBch (hk3.less fun b hb' => by show b ≠ _; omega)
          · exact (hk3.block _ (by show _ ≠ _; omega)).trans ((ho2 _ (by omega) (fun e => by have := (hO5.block _ e).1; omega)).trans ((hb5'.block _ (by omega)).trans hI.res))
      have hxv : x.1.1 = .slice px xr.length cx := by rw [hx]
      simp only [hxv]
      clear hI hlen hx hxe hxl hx2 hxv hxlw hO hb sW sB hI0
      gi_wp2_with fail
      refine wpIn_region_any mixedOnS ?_
      change wpAnyIn _ _ _ _ _ _ _ _ _ (World.drew _)
      refine wpAnyIn_ready (rs := [0, 2]) (by kernel_rfl) (by simp) ?_
      refine AllReadyIn.cons rfl (fun K' hK => ?_) ?_
      · rw [if_pos (by rfl)]
        go_simp
        refine hK _ _ ?_
        clear hK K'
        refine wpAnyIn_ready (rs := [1, 2]) (by kernel_rfl) (by simp) ?_
        refine AllReadyIn.cons rfl (fun K' hK => ?_) ?_
        · rw [if_pos (by rfl)]
          go_simp
          refine hK _ _ ?_
          clear hK K'
          refine wpAnyIn_ready (rs := [2]) (by kernel_rfl) (by simp) ?_
          refine AllReadyIn.cons rfl (fun K' hK => ?_) AllReadyIn.nil
          rw [if_pos (by rfl)]
          go_simp
          refine hK _ _ ?_
          clear hK K'
          refine wpAnyIn_ready (rs := [3]) (by kernel_rfl) (by simp) ?_
          refine AllReadyIn.cons rfl (fun K' hK => ?_) AllReadyIn.nil
          rw [if_pos (by rfl)]
          go_simp
          refine ⟨trivial, ?_⟩
          refine (CallsIn.inRound l (callsIn_wide.2 C18.out)).mono ?_
          rintro e w5 ⟨p5, c5, rfl, hl5, hb5⟩
          obtain ⟨p6, c6, X2, hrun, hb5c, hb6c, hb7c, hf7, X3, hX3, hfi⟩ := HNX.out w5 p5 c5 hl5 hb5
          have HFI := hid hfi
          clear hl5 hb5 hfi
          refine hK _ _ ?_
          clear hK K'
          refine wpAnyIn_ready (rs := [4]) (by kernel_rfl) (by simp) ?_
          refine AllReadyIn.cons rfl (fun K' hK => ?_) AllReadyIn.nil
          rw [if_pos (by rfl)]
          go_simp
          refine hK _ _ ?_
          clear hK K'
          refine wpAnyIn_ready (rs := [5]) (by kernel_rfl) (by simp) ?_
          refine AllReadyIn.cons rfl (fun K' hK => ?_) AllReadyIn.nil
          rw [if_pos (by rfl)]
          refine wpIn_append_run (fun _ => trivial) (.tmp 18) (.tmp 21) 27 27 rfl (.slice p pre.length cc) (.slice (some ⟨w5.heap.size, 0, none⟩) 1 1) rfl rfl _ _ hrun ?_
          simp only [Act.put, List.getElem_toArray, List.getElem_cons_zero, List.getElem_cons_succ, List.setIfInBounds_toArray, List.set_cons_zero, List.set_cons_succ]
          refine hK _ _ ?_
          clear hK K'
          refine wpAnyIn_ready (rs := [6]) (by kernel_rfl) (by simp) ?_
          refine AllReadyIn.cons rfl (fun K' hK => ?_) AllReadyIn.nil
          rw [if_pos (by rfl)]
          go_simp
          refine hK _ _ ?_
          clear hK K'
          refine wpAnyIn_ready (rs := [7]) (by kernel_rfl) (by simp) ?_
          refine AllReadyIn.cons rfl (fun K' hK => ?_) AllReadyIn.nil
          rw [if_pos (by rfl)]
          go_simp
          refine hK _ _ ?_
          clear hK K'
          refine wpAnyIn_done (by kernel_rfl) ?_ _
          gi_wp2_with fail
          exact HFI.out
        refine AllReadyIn.cons rfl (fun K' hK => ?_) AllReadyIn.nil
        rw [if_pos (by rfl)]
        go_simp
        refine hK _ _ ?_
        clear hK K'
        refine wpAnyIn_ready (rs := [1, 3]) (by kernel_rfl) (by simp) ?_
        refine AllReadyIn.cons rfl (fun K' hK => ?_) ?_
        · rw [if_pos (by rfl)]
          go_simp
          refine hK _ _ ?_
          clear hK K'
          refine wpAnyIn_ready (rs := [3]) (by kernel_rfl) (by simp) ?_
          refine AllReadyIn.cons rfl (fun K' hK => ?_) AllReadyIn.nil
          rw [if_pos (by rfl)]
          go_simp
          refine ⟨trivial, ?_⟩
          refine (CallsIn.inRound l (callsIn_wide.2 C18.out)).mono ?_
          rintro e w5 ⟨p5, c5, rfl, hl5, hb5⟩
          obtain ⟨p6, c6, X2, hrun, hb5c, hb6c, hb7c, hf7, X3, hX3, hfi⟩ := HNX.out w5 p5 c5 hl5 hb5
          have HFI := hid hfi
          clear hl5 hb5 hfi
          refine hK _ _ ?_
          clear hK K'
          refine wpAnyIn_ready (rs := [4]) (by kernel_rfl) (by simp) ?_
          refine AllReadyIn.cons rfl (fun K' hK => ?_) AllReadyIn.nil
          rw [if_pos (by rfl)]
          go_simp
          refine hK _ _ ?_
          clear hK K'
          refine wpAnyIn_ready (rs := [5]) (by kernel_rfl) (by simp) ?_
          refine AllReadyIn.cons rfl (fun K' hK => ?_) AllReadyIn.nil
          rw [if_pos (by rfl)]
          refine wpIn_append_run (fun _ => trivial) (.tmp 18) (.tmp 21) 27 27 rfl (.slice p pre.length cc) (.slice (some ⟨w5.heap.size, 0, none⟩) 1 1) rfl rfl _ _ hrun ?_
          simp only [Act.put, List.getElem_toArray, List.getElem_cons_zero, List.getElem_cons_succ, List.setIfInBounds_toArray, List.set_cons_zero, List.set_cons_succ]
          refine hK _ _ ?_
          clear hK K'
          refine wpAnyIn_ready (rs := [6]) (by kernel_rfl) (by simp) ?_
          refine AllReadyIn.cons rfl (fun K' hK => ?_) AllReadyIn.nil
          rw [if_pos (by rfl)]
          go_simp
          refine hK _ _ ?_
          clear hK K'
          refine wpAnyIn_ready (rs := [7]) (by kernel_rfl) (by simp) ?_
          refine AllReadyIn.cons rfl (fun K' hK => ?_) AllReadyIn.nil
          rw [if_pos (by rfl)]
          go_simp
          refine hK _ _ ?_
          clear hK K'
          refine wpAnyIn_done (by kernel_rfl) ?_ _
          gi_wp2_with fail
          exact HFI.out
        refine AllReadyIn.cons rfl (fun K' hK => ?_) AllReadyIn.nil
        rw [if_pos (by rfl)]
        go_simp
        refine ⟨trivial, ?_⟩
        refine (CallsIn.inRound l (callsIn_wide.2 C18.out)).mono ?_
        rintro e w5 ⟨p5, c5, rfl, hl5, hb5⟩
        obtain ⟨p6, c6, X2, hrun, hb5c, hb6c, hb7c, hf7, X3, hX3, hfi⟩ := HNX.out w5 p5 c5 hl5 hb5
        have HFI := hid hfi
        clear hl5 hb5 hfi
        refine hK _ _ ?_
        clear hK K'
        refine wpAnyIn_ready (rs := [1, 4]) (by kernel_rfl) (by simp) ?_
        refine AllReadyIn.cons rfl (fun K' hK => ?_) ?_
        · rw [if_pos (by rfl)]
          go_simp
          refine hK _ _ ?_
          clear hK K'
          refine wpAnyIn_ready (rs := [4]) (by kernel_rfl) (by simp) ?_
          refine AllReadyIn.cons rfl (fun K' hK => ?_) AllReadyIn.nil
          rw [if_pos (by rfl)]
          go_simp
          refine hK _ _ ?_
          clear hK K'
          refine wpAnyIn_ready (rs := [5]) (by kernel_rfl) (by simp) ?_
          refine AllReadyIn.cons rfl (fun K' hK => ?_) AllReadyIn.nil
          rw [if_pos (by rfl)]
          refine wpIn_append_run (fun _ => trivial) (.tmp 18) (.tmp 21) 27 27 rfl (.slice p pre.length cc) (.slice (some ⟨w5.heap.size, 0, none⟩) 1 1) rfl rfl _ _ hrun ?_
          simp only [Act.put, List.getElem_toArray, List.getElem_cons_zero, List.getElem_cons_succ, List.setIfInBounds_toArray, List.set_cons_zero, List.set_cons_succ]
          refine hK _ _ ?_
          clear hK K'
          refine wpAnyIn_ready (rs := [6]) (by kernel_rfl) (by simp) ?_
          refine AllReadyIn.cons rfl (fun K' hK => ?_) AllReadyIn.nil
          rw [if_pos (by rfl)]
          go_simp
          refine hK _ _ ?_
          clear hK K'
          refine wpAnyIn_ready (rs := [7]) (by kernel_rfl) (by simp) ?_
          refine AllReadyIn.cons rfl (fun K' hK => ?_) AllReadyIn.nil
          rw [if_pos (by rfl)]
          go_simp
          refine hK _ _ ?_
          clear hK K'
          refine wpAnyIn_done (by kernel_rfl) ?_ _
          gi_wp2_with fail
          exact HFI.out
        refine AllReadyIn.cons rfl (fun K' hK => ?_) AllReadyIn.nil
        rw [if_pos (by rfl)]
        go_simp
        refine hK _ _ ?_
        clear hK K'
        refine wpAnyIn_ready (rs := [1]) (by kernel_rfl) (by simp) ?_
        refine AllReadyIn.cons rfl (fun K' hK => ?_) AllReadyIn.nil
        rw [if_pos (by rfl)]
        go_simp
        refine hK _ _ ?_
        clear hK K'
        refine wpAnyIn_ready (rs := [5]) (by kernel_rfl) (by simp) ?_
        refine AllReadyIn.cons rfl (fun K' hK => ?_) AllReadyIn.nil
        rw [if_pos (by rfl)]
        refine wpIn_append_run (fun _ => trivial) (.tmp 18) (.tmp 21) 27 27 rfl (.slice p pre.length cc) (.slice (some ⟨w5.heap.size, 0, none⟩) 1 1) rfl rfl _ _ hrun ?_
        simp only [Act.put, List.getElem_toArray, List.getElem_cons_zero, List.getElem_cons_succ, List.setIfInBounds_toArray, List.set_cons_zero, List.set_cons_succ]
        refine hK _ _ ?_
        clear hK K'
        refine wpAnyIn_ready (rs := [6]) (by kernel_rfl) (by simp) ?_
        refine AllReadyIn.cons rfl (fun K' hK => ?_) AllReadyIn.nil
        rw [if_pos (by rfl)]
        go_simp
        refine hK _ _ ?_
        clear hK K'
        refine wpAnyIn_ready (rs := [7]) (by kernel_rfl) (by simp) ?_
        refine AllReadyIn.cons rfl (fun K' hK => ?_) AllReadyIn.nil
        rw [if_pos (by rfl)]
        go_simp
        refine hK _ _ ?_
        clear hK K'
        refine wpAnyIn_done (by kernel_rfl) ?_ _
        gi_wp2_with fail
        exact HFI.out
      refine AllReadyIn.cons rfl (fun K' hK => ?_) AllReadyIn.nil
      rw [if_pos (by rfl)]
      go_simp
      refine hK _ _ ?_
      clear hK K'
      refine wpAnyIn_ready (rs := [0, 3]) (by kernel_rfl) (by simp) ?_
      refine AllReadyIn.cons rfl (fun K' hK => ?_) ?_
      · rw [if_pos (by rfl)]
        go_simp
        refine hK _ _ ?_
        clear hK K'
        refine wpAnyIn_ready (rs := [1, 3]) (by kernel_rfl) (by simp) ?_
        refine AllReadyIn.cons rfl (fun K' hK => ?_) ?_
        · rw [if_pos (by rfl)]
          go_simp
          refine hK _ _ ?_
          clear hK K'
          refine wpAnyIn_ready (rs := [3]) (by kernel_rfl) (by simp) ?_
          refine AllReadyIn.cons rfl (fun K' hK => ?_) AllReadyIn.nil
          rw [if_pos (by rfl)]
          go_simp
          refine ⟨trivial, ?_⟩
          refine (CallsIn.inRound l (callsIn_wide.2 C18.out)).mono ?_
          rintro e w5 ⟨p5, c5, rfl, hl5, hb5⟩
          obtain ⟨p6, c6, X2, hrun, hb5c, hb6c, hb7c, hf7, X3, hX3, hfi⟩ := HNX.out w5 p5 c5 hl5 hb5
          have HFI := hid hfi
          clear hl5 hb5 hfi
          refine hK _ _ ?_
          clear hK K'
          refine wpAnyIn_ready (rs := [4]) (by kernel_rfl) (by simp) ?_
          refine AllReadyIn.cons rfl (fun K' hK => ?_) AllReadyIn.nil
          rw [if_pos (by rfl)]
          go_simp
          refine hK _ _ ?_
          clear hK K'
          refine wpAnyIn_ready (rs := [5]) (by kernel_rfl) (by simp) ?_
          refine AllReadyIn.cons rfl (fun K' hK => ?_) AllReadyIn.nil
          rw [if_pos (by rfl)]
          refine wpIn_append_run (fun _ => trivial) (.tmp 18) (.tmp 21) 27 27 rfl (.slice p pre.length cc) (.slice (some ⟨w5.heap.size, 0, none⟩) 1 1) rfl rfl _ _ hrun ?_
          simp only [Act.put, List.getElem_toArray, List.getElem_cons_zero, List.getElem_cons_succ, List.setIfInBounds_toArray, List.set_cons_zero, List.set_cons_succ]
          refine hK _ _ ?_
          clear hK K'
          refine wpAnyIn_ready (rs := [6]) (by kernel_rfl) (by simp) ?_
          refine AllReadyIn.cons rfl (fun K' hK => ?_) AllReadyIn.nil
          rw [if_pos (by rfl)]
          go_simp
          refine hK _ _ ?_
          clear hK K'
          refine wpAnyIn_ready (rs := [7]) (by kernel_rfl) (by simp) ?_
          refine AllReadyIn.cons rfl (fun K' hK => ?_) AllReadyIn.nil
          rw [if_pos (by rfl)]
          go_simp
          refine hK _ _ ?_
          clear hK K'
          refine wpAnyIn_done (by kernel_rfl) ?_ _
          gi_wp2_with fail
          exact HFI.out
        refine AllReadyIn.cons rfl (fun K' hK => ?_) AllReadyIn.nil
        rw [if_pos (by rfl)]
        go_simp
        refine ⟨trivial, ?_⟩
        refine (CallsIn.inRound l (callsIn_wide.2 C18.out)).mono ?_
        rintro e w5 ⟨p5, c5, rfl, hl5, hb5⟩
        obtain ⟨p6, c6, X2, hrun, hb5c, hb6c, hb7c, hf7, X3, hX3, hfi⟩ := HNX.out w5 p5 c5 hl5 hb5
        have HFI := hid hfi
        clear hl5 hb5 hfi
        refine hK _ _ ?_
        clear hK K'
        refine wpAnyIn_ready (rs := [1, 4]) (by kernel_rfl) (by simp) ?_
        refine AllReadyIn.cons rfl (fun K' hK => ?_) ?_
        · rw [if_pos (by rfl)]
          go_simp
          refine hK _ _ ?_
          clear hK K'
          refine wpAnyIn_ready (rs := [4]) (by kernel_rfl) (by simp) ?_
          refine AllReadyIn.cons rfl (fun K' hK => ?_) AllReadyIn.nil
          rw [if_pos (by rfl)]
          go_simp
          refine hK _ _ ?_
          clear hK K'
          refine wpAnyIn_ready (rs := [5]) (by kernel_rfl) (by simp) ?_
          refine AllReadyIn.cons rfl (fun K' hK => ?_) AllReadyIn.nil
          rw [if_pos (by rfl)]
          refine wpIn_append_run (fun _ => trivial) (.tmp 18) (.tmp 21) 27 27 rfl (.slice p pre.length cc) (.slice (some ⟨w5.heap.size, 0, none⟩) 1 1) rfl rfl _ _ hrun ?_
          simp only [Act.put, List.getElem_toArray, List.getElem_cons_zero, List.getElem_cons_succ, List.setIfInBounds_toArray, List.set_cons_zero, List.set_cons_succ]
          refine hK _ _ ?_
          clear hK K'
          refine wpAnyIn_ready (rs := [6]) (by kernel_rfl) (by simp) ?_
          refine AllReadyIn.cons rfl (fun K' hK => ?_) AllReadyIn.nil
          rw [if_pos (by rfl)]
          go_simp
          refine hK _ _ ?_
          clear hK K'
          refine wpAnyIn_ready (rs := [7]) (by kernel_rfl) (by simp) ?_
          refine AllReadyIn.cons rfl (fun K' hK => ?_) AllReadyIn.nil
          rw [if_pos (by rfl)]
          go_simp
          refine hK _ _ ?_
          clear hK K'
          refine wpAnyIn_done (by kernel_rfl) ?_ _
          gi_wp2_with fail
          exact HFI.out
        refine AllReadyIn.cons rfl (fun K' hK => ?_) AllReadyIn.nil
        rw [if_pos (by rfl)]
        go_simp
        refine hK _ _ ?_
        clear hK K'
        refine wpAnyIn_ready (rs := [1]) (by kernel_rfl) (by simp) ?_
        refine AllReadyIn.cons rfl (fun K' hK => ?_) AllReadyIn.nil
        rw [if_pos (by rfl)]
        go_simp
        refine hK _ _ ?_
        clear hK K'
        refine wpAnyIn_ready (rs := [5]) (by kernel_rfl) (by simp) ?_
        refine AllReadyIn.cons rfl (fun K' hK => ?_) AllReadyIn.nil
        rw [if_pos (by rfl)]
        refine wpIn_append_run (fun _ => trivial) (.tmp 18) (.tmp 21) 27 27 rfl (.slice p pre.length cc) (.slice (some ⟨w5.heap.size, 0, none⟩) 1 1) rfl rfl _ _ hrun ?_
        simp only [Act.put, List.getElem_toArray, List.getElem_cons_zero, List.getElem_cons_succ, List.setIfInBounds_toArray, List.set_cons_zero, List.set_cons_succ]
        refine hK _ _ ?_
        clear hK K'
        refine wpAnyIn_ready (rs := [6]) (by kernel_rfl) (by simp) ?_
        refine AllReadyIn.cons rfl (fun K' hK => ?_) AllReadyIn.nil
        rw [if_pos (by rfl)]
        go_simp
        refine hK _ _ ?_
        clear hK K'
        refine wpAnyIn_ready (rs := [7]) (by kernel_rfl) (by simp) ?_
        refine AllReadyIn.cons rfl (fun K' hK => ?_) AllReadyIn.nil
        rw [if_pos (by rfl)]
        go_simp
        refine hK _ _ ?_
        clear hK K'
        refine wpAnyIn_done (by kernel_rfl) ?_ _
        gi_wp2_with fail
        exact HFI.out
      refine AllReadyIn.cons rfl (fun K' hK => ?_) AllReadyIn.nil
      rw [if_pos (by rfl)]
      go_simp
      refine ⟨trivial, ?_⟩
      refine (CallsIn.inRound l (callsIn_wide.2 C18.out)).mono ?_
      rintro e w5 ⟨p5, c5, rfl, hl5, hb5⟩
      obtain ⟨p6, c6, X2, hrun, hb5c, hb6c, hb7c, hf7, X3, hX3, hfi⟩ := HNX.out w5 p5 c5 hl5 hb5
      have HFI := hid hfi
      clear hl5 hb5 hfi
      refine hK _ _ ?_
      clear hK K'
      refine wpAnyIn_ready (rs := [0, 4]) (by kernel_rfl) (by simp) ?_
      refine AllReadyIn.cons rfl (fun K' hK => ?_) ?_
      · rw [if_pos (by rfl)]
        go_simp
        refine hK _ _ ?_
        clear hK K'
        refine wpAnyIn_ready (rs := [1, 4]) (by kernel_rfl) (by simp) ?_
        refine AllReadyIn.cons rfl (fun K' hK => ?_) ?_
        · rw [if_pos (by rfl)]
          go_simp
          refine hK _ _ ?_
          clear hK K'
          refine wpAnyIn_ready (rs := [4]) (by kernel_rfl) (by simp) ?_
          refine AllReadyIn.cons rfl (fun K' hK => ?_) AllReadyIn.nil
          rw [if_pos (by rfl)]
          go_simp
          refine hK _ _ ?_
          clear hK K'
          refine wpAnyIn_ready (rs := [5]) (by kernel_rfl) (by simp) ?_
          refine AllReadyIn.cons rfl (fun K' hK => ?_) AllReadyIn.nil
          rw [if_pos (by rfl)]
          refine wpIn_append_run (fun _ => trivial) (.tmp 18) (.tmp 21) 27 27 rfl (.slice p pre.length cc) (.slice (some ⟨w5.heap.size, 0, none⟩) 1 1) rfl rfl _ _ hrun ?_
          simp only [Act.put, List.getElem_toArray, List.getElem_cons_zero, List.getElem_cons_succ, List.setIfInBounds_toArray, List.set_cons_zero, List.set_cons_succ]
          refine hK _ _ ?_
          clear hK K'
          refine wpAnyIn_ready (rs := [6]) (by kernel_rfl) (by simp) ?_
          refine AllReadyIn.cons rfl (fun K' hK => ?_) AllReadyIn.nil
          rw [if_pos (by rfl)]
          go_simp
          refine hK _ _ ?_
          clear hK K'
          refine wpAnyIn_ready (rs := [7]) (by kernel_rfl) (by simp) ?_
          refine AllReadyIn.cons rfl (fun K' hK => ?_) AllReadyIn.nil
          rw [if_pos (by rfl)]
          go_simp
          refine hK _ _ ?_
          clear hK K'
          refine wpAnyIn_done (by kernel_rfl) ?_ _
          gi_wp2_with fail
          exact HFI.out
        refine AllReadyIn.cons rfl (fun K' hK => ?_) AllReadyIn.nil
        rw [if_pos (by rfl)]
        go_simp
        refine hK _ _ ?_
        clear hK K'
        refine wpAnyIn_ready (rs := [1]) (by kernel_rfl) (by simp) ?_
        refine AllReadyIn.cons rfl (fun K' hK => ?_) AllReadyIn.nil
        rw [if_pos (by rfl)]
        go_simp
        refine hK _ _ ?_
        clear hK K'
        refine wpAnyIn_ready (rs := [5]) (by kernel_rfl) (by simp) ?_
        refine AllReadyIn.cons rfl (fun K' hK => ?_) AllReadyIn.nil
        rw [if_pos (by rfl)]
        refine wpIn_append_run (fun _ => trivial) (.tmp 18) (.tmp 21) 27 27 rfl (.slice p pre.length cc) (.slice (some ⟨w5.heap.size, 0, none⟩) 1 1) rfl rfl _ _ hrun ?_
        simp only [Act.put, List.getElem_toArray, List.getElem_cons_zero, List.getElem_cons_succ, List.setIfInBounds_toArray, List.set_cons_zero, List.set_cons_succ]
        refine hK _ _ ?_
        clear hK K'
        refine wpAnyIn_ready (rs := [6]) (by kernel_rfl) (by simp) ?_
        refine AllReadyIn.cons rfl (fun K' hK => ?_) AllReadyIn.nil
        rw [if_pos (by rfl)]
        go_simp
        refine hK _ _ ?_
        clear hK K'
        refine wpAnyIn_ready (rs := [7]) (by kernel_rfl) (by simp) ?_
        refine AllReadyIn.cons rfl (fun K' hK => ?_) AllReadyIn.nil
        rw [if_pos (by rfl)]
        go_simp
        refine hK _ _ ?_
        clear hK K'
        refine wpAnyIn_done (by kernel_rfl) ?_ _
        gi_wp2_with fail
        exact HFI.out
      refine AllReadyIn.cons rfl (fun K' hK => ?_) AllReadyIn.nil
      rw [if_pos (by rfl)]
      go_simp
      refine hK _ _ ?_
      clear hK K'
      refine wpAnyIn_ready (rs := [0]) (by kernel_rfl) (by simp) ?_
      refine AllReadyIn.cons rfl (fun K' hK => ?_) AllReadyIn.nil
      rw [if_pos (by rfl)]
      go_simp
      refine hK _ _ ?_
      clear hK K'
      refine wpAnyIn_ready (rs := [1]) (by kernel_rfl) (by simp) ?_
      refine AllReadyIn.cons rfl (fun K' hK => ?_) AllReadyIn.nil
      rw [if_pos (by rfl)]
      go_simp
      refine hK _ _ ?_
      clear hK K'
      refine wpAnyIn_ready (rs := [5]) (by kernel_rfl) (by simp) ?_
      refine AllReadyIn.cons rfl (fun K' hK => ?_) AllReadyIn.nil
      rw [if_pos (by rfl)]
      refine wpIn_append_run (fun _ => trivial) (.tmp 18) (.tmp 21) 27 27 rfl (.slice p pre.length cc) (.slice (some ⟨w5.heap.size, 0, none⟩) 1 1) rfl rfl _ _ hrun ?_
      simp only [Act.put, List.getElem_toArray, List.getElem_cons_zero, List.getElem_cons_succ, List.setIfInBounds_toArray, List.set_cons_zero, List.set_cons_succ]
      refine hK _ _ ?_
      clear hK K'
      refine wpAnyIn_ready (rs := [6]) (by kernel_rfl) (by simp) ?_
      refine AllReadyIn.cons rfl (fun K' hK => ?_) AllReadyIn.nil
      rw [if_pos (by rfl)]
      go_simp
      refine hK _ _ ?_
      clear hK K'
      refine wpAnyIn_ready (rs := [7]) (by kernel_rfl) (by simp) ?_
      refine AllReadyIn.cons rfl (fun K' hK => ?_) AllReadyIn.nil
      rw [if_pos (by rfl)]
      go_simp
      refine hK _ _ ?_
      clear hK K'
      refine wpAnyIn_done (by kernel_rfl) ?_ _
      gi_wp2_with fail
      exact HFI.out
    case done =>
      rintro D ys W hD hys hI hKD
      obtain ⟨p, cc, hb, hO⟩ := hI.box
      obtain ⟨hth, X, hX, hld, hsX, hkX⟩ := put_row W (w.heap.size + 1) _ 29 hI.res [.int .u64 (s.qb : Int), .int .u64 (s.qn : Int), .int .i64 s.at_, .int .i64 s.fr, .int .i64 s.tq, .slice p ys.length cc, .int .u64 0] rfl Try.underlying29 rfl sz_Out
      have hKX : X.heap[D]? = some (.deferred (some [])) := (hkX.block D (by show D ≠ _; omega)).trans hKD
      have hgX : X.heap[w.heap.size + 1]? = some (.cells #[.int .u64 (s.qb : Int), .int .u64 (s.qn : Int), .int .i64 s.at_, .int .i64 s.fr, .int .i64 s.tq, .slice p ys.length cc, .int .u64 0] 29 (0, 0)) := by rw [← hX]; exact box_full W (w.heap.size + 1) _ 29 hI.res [.int .u64 (s.qb : Int), .int .u64 (s.qn : Int), .int .i64 s.at_, .int .i64 s.fr, .int .i64 s.tq, .slice p ys.length cc, .int .u64 0] rfl
      obtain ⟨X', hX'⟩ : ∃ X', X.putObj D (.deferred none) = X' := ⟨_, rfl⟩
      have hoth : ∀ b, b ≠ D → X'.heap[b]? = X.heap[b]? := fun b hb' => by rw [← hX']; exact World.putObj_heap_other hb'
      have hosX : X'.os = X.os ∧ X'.tape = X.tape ∧ X'.output = X.output ∧ X'.heap.size = X.heap.size := by rw [← hX']; exact ⟨rfl, rfl, rfl, by simp⟩
      have hl8 : ys.length ≤ rows.length + 1 := by
        have := congrArg List.length hys
        rw [List.length_map] at this
        rw [this]; exact chunkP_len _ rows (Nat.le_refl _)
      have hO2 : OwnR rBch 1 30 wL.heap.size X' (.slice p ys.length cc) (ys.map (·.1.2)) := (hO.kept mBch (hkX.less fun b hb' => by show b ≠ _; omega)).cellsKept (by omega) hosX.1 hosX.2.1 hosX.2.2.1 (fun b hb' => hoth b (fun e => by
        obtain ⟨_, _, _, e2⟩ := hb'
        rw [e, hKX] at e2; cases e2))
      have hFI : CutR w s rows (.returned (.tuple #[.agg #[.int .u64 (s.qb : Int), .int .u64 (s.qn : Int), .int .i64 s.at_, .int .i64 s.fr, .int .i64 s.tq, .slice p ys.length cc, .int .u64 0], .int .i64 0])) X' := by
        refine ⟨[.int .u64 (s.qb : Int), .int .u64 (s.qn : Int), .int .i64 s.at_, .int .i64 s.fr, .int .i64 s.tq, .slice p ys.length cc, .int .u64 0], by rw [if_neg hbig], ?_, ?_⟩
        · rw [if_neg hbig]
          obtain ⟨_, _, e1, l1⟩ := (hO2.less (C := w.heap.size) (by omega)).list mBch (bytes := 24) (by rw [List.length_map]; omega)
          rw [← e1, hys] at l1
          exact ⟨_, rfl, ⟨hs, by show (0:Nat) < _; omega⟩, l1⟩
        · exact ⟨hosX.1.trans (hkX.os.trans hI.bel.os), hosX.2.1.trans (hkX.tape.trans hI.bel.tape), hosX.2.2.1.trans (hkX.output.trans hI.bel.output), by have := hI.bel.size; omega, fun b hb' => (hoth b (by omega)).trans ((hkX.block b (by show b ≠ _; omega)).trans (hI.bel.block b hb'))⟩
      have HFI := hid hFI
      have HLD : Hid ((loadVar 29 ⟨w.heap.size + 1, 0, none⟩).run Try.prog X' = .ok (.agg #[.int .u64 (s.qb : Int), .int .u64 (s.qn : Int), .int .i64 s.at_, .int .i64 s.fr, .int .i64 s.tq, .slice p ys.length cc, .int .u64 0]) X') := run_loadVar_mid X' _ 0 29 [.int .u64 (s.qb : Int), .int .u64 (s.qn : Int), .int .i64 s.at_, .int .i64 s.fr, .int .i64 s.tq, .slice p ys.length cc, .int .u64 0] _ (fun j u hu => by rw [Nat.zero_add]; exact cell_of_row ((hoth _ (by omega)).trans hgX) (by simpa using hu)) Try.underlying29 rfl sz_Out
      have HRB : Hid (W.rangeAt (w.heap.size + 1 + 1) 0 [.int .u64 (s.qb : Int), .int .u64 (s.qn : Int), .int .i64 s.at_, .int .i64 s.fr, .int .i64 s.tq, .slice p ys.length cc, .int .u64 0]) := fun j u hu => by rw [Nat.zero_add]; exact cell_of_row hb (by simpa using hu)
      have HTH : Hid (W.there (w.heap.size + 1) 0 7) := hth
      have HWX : Hid (W.setCells (w.heap.size + 1) 0 (#[.int .u64 (s.qb : Int), .int .u64 (s.qn : Int), .int .i64 s.at_, .int .i64 s.fr, .int .i64 s.tq, .slice p ys.length cc, .int .u64 0] : Array Value).toList = X) := hX
      have HON : Hid ((#[.int .u64 (s.qb : Int), .int .u64 (s.qn : Int), .int .i64 s.at_, .int .i64 s.fr, .int .i64 s.tq, .slice p ys.length cc, .int .u64 0] : Array Value).all (·.oneCell') = true) := by show _ = _; simp [Value.oneCell']
      have HKX := hid hKX
      have HX' : Hid (X.putObj D (.deferred none) = X') := hX'
      clear hI hO hO2 hb hth hX hld hsX hkX hgX hX' hoth hosX hFI hl8 hys hKX hKD hI0 hbLw hbL hgL hsL
      gi_wp2_with (first | (refine wpListIn_load_midW rfl 29 _ rfl (w.heap.size + 1 + 1) 0 rfl _ _ HRB.out Try.underlying29 rfl sz_Out ?_) | (refine wpListIn_store_midW rfl 29 _ _ rfl (w.heap.size + 1) 0 #[.int .u64 (s.qb : Int), .int .u64 (s.qn : Int), .int .i64 s.at_, .int .i64 s.fr, .int .i64 s.tq, .slice p ys.length cc, .int .u64 0] rfl rfl HTH.out sz_Out HON.out ?_; rw [HWX.out]))
      refine ⟨by simp, .inl ⟨_, _, rfl, run_takeDeferred HKX.out, ?_⟩⟩
      rw [HX'.out]
      exact ⟨_, by simp only [results, Try.results6]; simp [asAddr, Act.put, HLD.out], HFI.out⟩
    case stop =>
      rintro D c pre W _ _ h _
      exact h.elim
end Go.Proofs.Ytcmiphgeakdonaa
