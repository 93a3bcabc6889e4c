/- The reference: leases that are copied. -/
import Derived.Test.YtdcgppdljcokpaaLi
import Derived.Laws.AppendOwnNone
import Derived.Deep.RegionLaw
namespace Go.Proofs.Ytdcgppdljcokpaa
open Go.Shelf Go.RowKit Go.Lib Go.Sort
set_option linter.unusedVariables false
set_option linter.unusedSimpArgs false
attribute [local go_sem ↓] Go.wp_at_zero Go.wp_at_succ
theorem step_append {ops : Array Oper} {o : Oper} {a : Act} {K : Act → World → Prop} {Q : Exit → Act → World → Prop} {E : Prop} (W : World) (hgd : o.guard = none) (s x : Operand)
    (ho : o.op = .call { callee := .builtin .append, args := #[s, x], argTypes := #[22, 22] }) (vs vx v' : Value) (W' : World) (hs : a.eval s = vs) (hx : a.eval x = vx)
    (hrun : (Builtin.append_ #[22, 22] o.type #[vs, vx]).run Try.prog W = .ok v' W') (h : K (a.put o.dst v') W') :
    if Region.wanted o (yielded ops a.tmps) = true then Oper.wp Try.prog o a W K Q else E := by
  have hw : Region.wanted o (yielded ops a.tmps) = true := by simp [Region.wanted, hgd]
  rw [if_pos hw]
  unfold Oper.wp execOp
  simp only [ho, resolve, invoke, builtin, Sem.run_bind, Sem.run_pure, Result.andThen_ok, List.map_toArray, List.map_cons, List.map_nil, hs, hx, hrun]
  exact h
/-- A list that is put behind an empty one. -/
structure Mt (X W' : World) (g : Nat) (vx : Value) (zs : List Int) (p : Option Addr) (c : Nat) : Prop where
  run : (Builtin.append_ #[22, 22] 22 #[.slice (some ⟨g, 0, none⟩) 0 0, vx]).run Try.prog X = .ok (.slice p zs.length c) W'
  nums : NumsL W' (.slice p zs.length c) zs
  old : ∀ j, j < X.heap.size → j ≠ g → W'.heap[j]? = X.heap[j]?
  size : X.heap.size ≤ W'.heap.size
  below : ∀ B w0, Below B w0 X → B ≤ g → Below B w0 W'
  row : 0 < zs.length → ∃ r cur, p = some ⟨r, 0, none⟩ ∧ (r = g ∨ r = X.heap.size) ∧ W'.heap[r]? = some (.cells cur 25 (0, 0)) ∧ ∀ j (h : j < zs.length), cur[j]? = some (.int .u64 zs[j])
theorem mt_append {X : World} {g : Nat} (hg : X.heap[g]? = some (.cells #[] 25 (0, 0))) {vx : Value} {zs : List Int} (h : NumsL X vx zs) : ∃ W' p c, Mt X W' g vx zs p c := by
  obtain ⟨i0, hi0, hz0, hz1, hz2⟩ := info25
  have hgl : g < X.heap.size := (Array.getElem?_eq_some_iff.1 hg).1
  have hown : X.ownsRow g 25 1 (.slice (some ⟨g, 0, none⟩) 0 0) 0 [] := ⟨rfl, .inr ⟨g, 0, #[], rfl, Nat.le_refl _, hg, Nat.le_refl _, Nat.zero_le _, rfl, rfl⟩⟩
  have hmany := h.many
  have hU := h.inU
  obtain ⟨p, c, rfl, hlc, hcc, hl, hs, hn, hp⟩ := h
  cases p with
  | none =>
    have h0 := hn rfl
    subst h0
    have hz : zs = [] := List.eq_nil_of_length_eq_zero (by omega)
    subst hz
    refine ⟨X, some ⟨g, 0, none⟩, 0, run_append_owned_none (P := Try.prog) (w := X) g 22 22 25 i0 1 Try.underlying22 hi0 _ _ _ hown, ?_, fun _ _ _ => rfl, Nat.le_refl _, fun _ _ h _ => h, fun h => by simp at h⟩
    exact ⟨_, 0, rfl, by simp, by omega, by simp, fun z hz => by simp at hz, (fun h => by cases h), fun h => by simp at h⟩
  | some ad =>
    have HC : ∀ j x, (zs.map fun z => Value.int .u64 z)[j]? = some x → X.cell? (ad.add j) = some x := fun j x hx => by
      by_cases h0 : 0 < zs.length
      · obtain ⟨b', o', e, hlt', hc⟩ := hp h0
        cases e
        exact nums_add hc j x hx
      · rw [List.eq_nil_of_length_eq_zero (by omega : zs.length = 0)] at hx; simp at hx
    obtain ⟨v', W', e, h2, h3, _, h5⟩ := run_append_own_at (P := Try.prog) X g 22 22 25 i0 _ 1 8 Try.underlying22 hi0 hz0 hz1 hz2 rfl (by omega) _ 0 [] hown ad zs.length c (zs.map fun z => Value.int .u64 z) (by simp) HC (fun x hx => by simp at hx; obtain ⟨z, _, rfl⟩ := hx; rfl) (by unfold maxLen; omega) (by omega) (by omega)
    rw [Nat.zero_add, List.nil_append] at h2
    have hN : NumsL W' v' zs := OwnN.nums (base := g) h2 hmany hU
    have hN2 := hN
    obtain ⟨p', c', rfl, _⟩ := hN
    refine ⟨W', p', c', e, hN2, fun j hj hne => h3.block j hj (fun e => ?_), h3.size, fun B w0 hb hB => ?_, fun h0 => ?_⟩
    · simp only [Value.ownBlock, Option.map_some, Option.some.injEq] at e
      exact hne e
    · exact Below.grown hb h3 (by omega) (fun j hj => by have := (hown.lt _ hj).1; omega)
    · obtain ⟨r, cc, cur, ev, _, _, hr, _, _, _, hcl⟩ := own_cell (base := g) h2 h0
      simp only [Value.slice.injEq] at ev
      obtain ⟨rfl, _, rfl⟩ := ev
      refine ⟨r, cur, rfl, ?_, hr, hcl⟩
      simpa [Value.ownBlock] using h5
/-- What becomes of a list where an empty block, or a box of lists, is changed. -/
theorem NumsL.but {W W' : World} {v : Value} {zs : List Int} {g : Nat} {cs : Array Value} {t : TypeId} (h : NumsL W v zs) (he : W.heap[g]? = some (.cells cs t (0, 0))) (hcs : ∀ (k : Nat) (n : Int), cs[k]? ≠ some (Value.int .u64 n)) (ho : ∀ j, j < W.heap.size → j ≠ g → W'.heap[j]? = W.heap[j]?) (hsz : W.heap.size ≤ W'.heap.size) : NumsL W' v zs := by
  obtain ⟨p, c, rfl, hlc, hcc, hl, hs, hn, hp⟩ := h
  refine ⟨p, c, rfl, hlc, hcc, hl, hs, hn, fun h0 => ?_⟩
  obtain ⟨b, o, rfl, hlt, hi⟩ := hp h0
  have hbg : b ≠ g := by
    rintro rfl
    have := hi 0 h0
    simp only [World.cell?, he] at this
    exact hcs _ _ (by simpa using this)
  refine ⟨b, o, rfl, by omega, fun j hj => ?_⟩
  rw [World.cell?_of_block (w := W) (ho b hlt hbg)]
  exact hi j hj
/-- Two lists in rows of their own. -/
structure Rows2 (B : Nat) (W : World) (ga gb : Nat) (bs ss : List Int) : Prop where
  newa : B ≤ ga
  newb : B ≤ gb
  ne : ga ≠ gb
  rowa : ∃ cur, W.heap[ga]? = some (.cells cur 25 (0, 0)) ∧ ∀ j (h : j < bs.length), cur[j]? = some (.int .u64 bs[j])
  rowb : ∃ cur, W.heap[gb]? = some (.cells cur 25 (0, 0)) ∧ ∀ j (h : j < ss.length), cur[j]? = some (.int .u64 ss[j])
/-- Leases of their own memory. -/
def CpyP (bs ss : List Int) (w : World) (e : Ending) (w' : World) : Prop :=
  ∃ p c q d, e = .returned (.agg #[.slice p bs.length c, .slice q ss.length d]) ∧ NumsL w' (.slice p bs.length c) bs ∧ NumsL w' (.slice q ss.length d) ss ∧ Below w.heap.size w w' ∧ (0 < bs.length → 0 < ss.length → ∃ ga gb, p = some ⟨ga, 0, none⟩ ∧ q = some ⟨gb, 0, none⟩ ∧ Rows2 w.heap.size w' ga gb bs ss)
theorem no_int (u v : Value) (hu : ∀ n, u ≠ Value.int .u64 n) (hv : ∀ n, v ≠ Value.int .u64 n) : ∀ (k : Nat) (n : Int), (#[u, v] : Array Value)[k]? ≠ some (Value.int .u64 n) := fun k n h => by
  match k with
  | 0 => simp at h; exact hu _ h
  | 1 => simp at h; exact hv _ h
  | k + 2 => simp at h
/-- Two lists that are put, one behind the other, into new memory, and then into a box. -/
theorem two_mts {w X1 X2 WA WB : World} {r g1 g2 : Nat} {u v : Value} {bs ss : List Int} {p q : Option Addr} {c d : Nat} (hA : Mt X1 WA g1 u bs p c) (hB : Mt X2 WB g2 v ss q d) (hX1 : Below w.heap.size w X1) (hg1 : w.heap.size + 2 ≤ g1) (hg2 : w.heap.size + 2 ≤ g2)
    (hX2 : ∀ j, j < WA.heap.size → X2.heap[j]? = WA.heap[j]?) (hs : WA.heap.size ≤ X2.heap.size) (hb2 : Below w.heap.size w X2) (he2 : X2.heap[g2]? = some (.cells #[] 25 (0, 0))) (hr : r = w.heap.size + 1) (hgg : g1 ≠ g2) (hxg : X1.heap.size < WA.heap.size → X1.heap.size ≠ g2) (hbx : X1.heap[r]? = some (.cells #[.slice none 0 0, .slice none 0 0] 24 (0, 0))) :
    ∃ Wa Wz, WB.setCell ⟨r, 0, none⟩ (.slice p bs.length c) = Wa ∧ Wa.setCell ⟨r, 1, none⟩ (.slice q ss.length d) = Wz ∧ WB.cell? ⟨r, 0, none⟩ = some (.slice none 0 0) ∧ WB.frozen? ⟨r, 0, none⟩ = false ∧ Wa.cell? ⟨r, 1, none⟩ = some (.slice none 0 0) ∧ Wa.frozen? ⟨r, 1, none⟩ = false ∧
      Wz.cell? ⟨r, 0, none⟩ = some (.slice p bs.length c) ∧ Wz.cell? ⟨r, 1, none⟩ = some (.slice q ss.length d) ∧ Hid (Below w.heap.size w Wz) ∧ Hid (NumsL Wz (.slice p bs.length c) bs ∧ NumsL Wz (.slice q ss.length d) ss) ∧ Hid (0 < bs.length → 0 < ss.length → ∃ ga gb, p = some ⟨ga, 0, none⟩ ∧ q = some ⟨gb, 0, none⟩ ∧ Rows2 w.heap.size Wz ga gb bs ss) ∧ Hid (∀ j, j < w.heap.size + 1 → WB.heap[j]? = X1.heap[j]? ∧ WA.heap[j]? = X1.heap[j]? ∧ X2.heap[j]? = X1.heap[j]? ∧ Wz.heap[j]? = X1.heap[j]?) := by
  subst hr
  have hl1 : w.heap.size + 1 < X1.heap.size := (Array.getElem?_eq_some_iff.1 hbx).1
  have s1 := hA.size
  have s2 := hB.size
  have b1 : WA.heap[w.heap.size + 1]? = some (.cells #[.slice none 0 0, .slice none 0 0] 24 (0, 0)) := by rw [hA.old _ hl1 (by omega)]; exact hbx
  have b2 : X2.heap[w.heap.size + 1]? = some (.cells #[.slice none 0 0, .slice none 0 0] 24 (0, 0)) := by rw [hX2 _ (by omega)]; exact b1
  have b3 : WB.heap[w.heap.size + 1]? = some (.cells #[.slice none 0 0, .slice none 0 0] 24 (0, 0)) := by rw [hB.old _ (by omega) (by omega)]; exact b2
  obtain ⟨Wa, Wz, e1, e2, p1, p2, p3, p4, p5, p6, p7, p8, p9, p10⟩ := set_two b3 (.slice p bs.length c) (.slice q ss.length d)
  have n1 : NumsL X2 (.slice p bs.length c) bs := by
    obtain ⟨p', c', ev, hlc, hcc, hl, hs', hn, hp⟩ := hA.nums
    refine ⟨p', c', ev, hlc, hcc, hl, hs', hn, fun h0 => ?_⟩
    obtain ⟨b, o, rfl, hlt, hi⟩ := hp h0
    exact ⟨b, o, rfl, by omega, fun j hj => by rw [World.cell?_of_block (w := WA) (hX2 b hlt)]; exact hi j hj⟩
  have n2 : NumsL WB (.slice p bs.length c) bs := n1.but he2 (fun k n h => by simp at h) hB.old hB.size
  have hni := no_int (.slice none 0 0) (.slice none 0 0) (fun n h => by cases h) (fun n h => by cases h)
  refine ⟨Wa, Wz, e1, e2, p1, p2, p3, p4, p5, p6, p10 _ _ (hB.below _ _ hb2 (by omega)) (by omega), ⟨n2.but b3 hni (fun j _ hj => p8 j hj) p9, hB.nums.but b3 hni (fun j _ hj => p8 j hj) p9⟩, fun h1 h2 => ?_, fun j hj => ?_⟩
  · obtain ⟨r1, cu1, rfl, ho1, hr1, hc1⟩ := hA.row h1
    obtain ⟨r2, cu2, rfl, ho2, hr2, hc2⟩ := hB.row h2
    have hl1' : r1 < WA.heap.size := (Array.getElem?_eq_some_iff.1 hr1).1
    have hx2 : X2.heap[r1]? = some (.cells cu1 25 (0, 0)) := by rw [hX2 _ hl1']; exact hr1
    have hg12 : r1 ≠ g2 := by
      rcases ho1 with rfl | rfl
      · exact hgg
      · exact hxg hl1'
    have hne : r1 ≠ r2 := by
      rcases ho2 with rfl | rfl
      · exact hg12
      · omega
    have hwb : WB.heap[r1]? = some (.cells cu1 25 (0, 0)) := by rw [hB.old _ (by omega) hg12]; exact hx2
    have hb1 : w.heap.size + 2 ≤ r1 := by rcases ho1 with rfl | rfl <;> omega
    have hb2 : w.heap.size + 2 ≤ r2 := by rcases ho2 with rfl | rfl <;> omega
    exact ⟨r1, r2, rfl, rfl, by omega, by omega, hne, ⟨cu1, by rw [p8 _ (by omega)]; exact hwb, hc1⟩, ⟨cu2, by rw [p8 _ (by omega)]; exact hr2, hc2⟩⟩
  have q1 := hA.old j (by omega) (by omega)
  have q2 := hX2 j (by omega)
  have q3 := hB.old j (by omega) (by omega)
  have q4 := p8 j (by omega)
  rw [q4, q3, q2, q1]
  exact ⟨rfl, rfl, rfl, rfl⟩
set_option maxRecDepth 100000 in
set_option maxHeartbeats 8000000 in
theorem refCopy_any (u v : Value) (bs ss : List Int) (w : World) (h : NumsL w u bs) (h' : NumsL w v ss) :
    Calls Try.prog 7 #[.agg #[u, v]] w fun e w' => CpyP bs ss w e w' := by
  obtain ⟨W0, hW0⟩ : ∃ W0, (w.alloc (.cells #[u, v] 24)).alloc (.cells #[.slice none 0 0, .slice none 0 0] 24) = W0 := ⟨_, rfl⟩
  have hb0 : Below w.heap.size w W0 := by rw [← hW0]; exact two_below _ _ _
  have hs0 : W0.heap.size = w.heap.size + 2 := by rw [← hW0]; simp
  have g0 : W0.heap[w.heap.size]? = some (.cells #[u, v] 24 (0, 0)) := by rw [← hW0, heap_alloc_old _ _ (by simp)]; exact heap_alloc_new w _
  have g1 : W0.heap[w.heap.size + 1]? = some (.cells #[.slice none 0 0, .slice none 0 0] 24 (0, 0)) := by
    rw [← hW0]
    have := heap_alloc_new (w.alloc (.cells #[u, v] 24)) (.cells #[.slice none 0 0, .slice none 0 0] 24)
    simpa using this
  have HX : Hid (∀ W : World, (∀ j, j < W0.heap.size → W.heap[j]? = W0.heap[j]?) → W.cell? ⟨w.heap.size, 0, none⟩ = some u ∧ W.cell? ⟨w.heap.size, 1, none⟩ = some v) := fun W hb =>
    ⟨cell_of_row (k := 0) (by rw [hb _ (by omega)]; exact g0) rfl, cell_of_row (k := 1) (by rw [hb _ (by omega)]; exact g0) rfl⟩
  have x0 := cell_of_row (k := 0) (v := u) g0 rfl
  have x1 := cell_of_row (k := 1) (v := v) g0 rfl
  have HB0 : Hid (Below w.heap.size w W0) := hb0
  obtain ⟨U1, hU1⟩ : ∃ U1, W0.drew.alloc (.cells #[] 25) = U1 := ⟨_, rfl⟩
  have hU1b : (W0.alloc (.cells #[] 25)).drew = U1 := hU1
  obtain ⟨U2, hU2⟩ : ∃ U2, U1.alloc (.cells #[] 25) = U2 := ⟨_, rfl⟩
  have hU2b : ((W0.alloc (.cells #[] 25)).alloc (.cells #[] 25)).drew = U2 := by rw [← hU2, ← hU1b]; rfl
  have hbU1 : Below W0.heap.size W0 U1 := by rw [← hU1b]; exact (one_below _ _).drew
  have hsU1 : U1.heap.size = W0.heap.size + 1 := by rw [← hU1b]; show (W0.alloc _).heap.size = _; simp
  have hbU2' : Below U1.heap.size U1 U2 := by rw [← hU2]; exact one_below _ _
  have hbU2 : Below W0.heap.size W0 U2 := hbU1.trans (hbU2'.mono hbU1.size)
  have m1 : U1.heap[W0.heap.size]? = some (.cells #[] 25 (0, 0)) := by rw [← hU1b]; exact heap_alloc_new _ _
  have m2 : U2.heap[W0.heap.size]? = some (.cells #[] 25 (0, 0)) := by rw [hbU2'.block _ (by omega)]; exact m1
  have m3 : U2.heap[U1.heap.size]? = some (.cells #[] 25 (0, 0)) := by rw [← hU2]; exact heap_alloc_new _ _
  have HD : ∀ {W}, Below W0.heap.size W0 W → Below w.heap.size w W := fun hb => hb0.trans (hb.mono hb0.size)
  -- the first order: the second empty list comes behind the first one's append
  obtain ⟨A1, pa1, ca1, hA1⟩ := mt_append (X := U1) (g := W0.heap.size) m1 (h.below (HD hbU1))
  obtain ⟨Y1, hY1⟩ : ∃ Y1, A1.alloc (.cells #[] 25) = Y1 := ⟨_, rfl⟩
  have y1 : Y1.heap[A1.heap.size]? = some (.cells #[] 25 (0, 0)) := by rw [← hY1]; exact heap_alloc_new _ _
  have hbA1 := hA1.below _ _ (HD hbU1) (by omega)
  have hbY1 : Below w.heap.size w Y1 := by rw [← hY1]; exact hbA1.alloc hbA1.size _
  obtain ⟨B1, pb1, cb1, hB1⟩ := mt_append y1 (h'.below hbY1)
  have hsA1 := hA1.size
  have hbxU1 : U1.heap[w.heap.size + 1]? = some (.cells #[.slice none 0 0, .slice none 0 0] 24 (0, 0)) := by show U1.heap[_]? = _; rw [hbU1.block _ (by omega)]; exact g1
  have hbxU2 : U2.heap[w.heap.size + 1]? = some (.cells #[.slice none 0 0, .slice none 0 0] 24 (0, 0)) := by show U2.heap[_]? = _; rw [hbU2.block _ (by omega)]; exact g1
  have hsY1 : Y1.heap.size = A1.heap.size + 1 := by rw [← hY1]; simp
  obtain ⟨Va1, Vz1, e11, e12, p11, p12, p13, p14, p15, p16, HV1, HN1, HR1, HO1⟩ := two_mts hA1 hB1 (HD hbU1) (by omega) (by have : U1.heap.size = U1.heap.size := rfl; omega) (fun j hj => by rw [← hY1]; exact heap_alloc_old _ _ hj) (by rw [← hY1]; simp) hbY1 y1 rfl (by omega) (by omega) hbxU1
  -- both empty lists come first, the first one's ahead
  obtain ⟨A2, pa2, ca2, hA2⟩ := mt_append (X := U2) (g := W0.heap.size) m2 (h.below (HD hbU2))
  have hsU2 : U2.heap.size = W0.heap.size + 2 := by rw [← hU2]; simp [hsU1]
  have y2 : A2.heap[U1.heap.size]? = some (.cells #[] 25 (0, 0)) := by rw [hA2.old _ (by show _ < U2.heap.size; omega) (by omega)]; exact m3
  have hbA2 := hA2.below _ _ (HD hbU2) (by omega)
  obtain ⟨B2, pb2, cb2, hB2⟩ := mt_append y2 (h'.below hbA2)
  have hsA2 := hA2.size
  obtain ⟨Va2, Vz2, e21, e22, p21, p22, p23, p24, p25, p26, HV2, HN2, HR2, HO2⟩ := two_mts hA2 hB2 (HD hbU2) (by omega) (by omega) (fun _ _ => rfl) (Nat.le_refl _) hbA2 y2 rfl (by omega) (by omega) hbxU2
  -- the other way round
  obtain ⟨A3, pa3, ca3, hA3⟩ := mt_append (X := U2) (g := U1.heap.size) m3 (h.below (HD hbU2))
  have y3 : A3.heap[W0.heap.size]? = some (.cells #[] 25 (0, 0)) := by rw [hA3.old _ (by show _ < U2.heap.size; omega) (by omega)]; exact m2
  have hbA3 := hA3.below _ _ (HD hbU2) (by omega)
  obtain ⟨B3, pb3, cb3, hB3⟩ := mt_append y3 (h'.below hbA3)
  have hsA3 := hA3.size
  obtain ⟨Va3, Vz3, e31, e32, p31, p32, p33, p34, p35, p36, HV3, HN3, HR3, HO3⟩ := two_mts hA3 hB3 (HD hbU2) (by omega) (by omega) (fun _ _ => rfl) (Nat.le_refl _) hbA3 y3 rfl (by omega) (by omega) hbxU2
  have hUU : ∀ U : World, Below W0.heap.size W0 U → U.heap[w.heap.size]? = some (.cells #[u, v] 24 (0, 0)) := fun U hb => by show U.heap[_]? = _; rw [hb.block _ (by omega)]; exact g0
  have HS : Hid (∀ W : World, W.heap[w.heap.size]? = some (.cells #[u, v] 24 (0, 0)) → W.cell? ⟨w.heap.size, 0, none⟩ = some u ∧ W.cell? ⟨w.heap.size, 1, none⟩ = some v) := fun W hg => ⟨cell_of_row (k := 0) hg rfl, cell_of_row (k := 1) hg rfl⟩
  have KA1 : Hid (A1.cell? ⟨w.heap.size, 0, none⟩ = some u ∧ A1.cell? ⟨w.heap.size, 1, none⟩ = some v) := HS.out A1 ((HO1.out w.heap.size (by omega)).2.1.trans (hUU U1 hbU1))
  have KY1 : Hid (Y1.cell? ⟨w.heap.size, 0, none⟩ = some u ∧ Y1.cell? ⟨w.heap.size, 1, none⟩ = some v) := HS.out Y1 ((HO1.out w.heap.size (by omega)).2.2.1.trans (hUU U1 hbU1))
  have KB1 : Hid (B1.cell? ⟨w.heap.size, 0, none⟩ = some u ∧ B1.cell? ⟨w.heap.size, 1, none⟩ = some v) := HS.out B1 ((HO1.out w.heap.size (by omega)).1.trans (hUU U1 hbU1))
  have KVz1 : Hid (Vz1.cell? ⟨w.heap.size, 0, none⟩ = some u ∧ Vz1.cell? ⟨w.heap.size, 1, none⟩ = some v) := HS.out Vz1 ((HO1.out w.heap.size (by omega)).2.2.2.trans (hUU U1 hbU1))
  have KA2 : Hid (A2.cell? ⟨w.heap.size, 0, none⟩ = some u ∧ A2.cell? ⟨w.heap.size, 1, none⟩ = some v) := HS.out A2 ((HO2.out w.heap.size (by omega)).2.1.trans (hUU U2 hbU2))
  have KB2 : Hid (B2.cell? ⟨w.heap.size, 0, none⟩ = some u ∧ B2.cell? ⟨w.heap.size, 1, none⟩ = some v) := HS.out B2 ((HO2.out w.heap.size (by omega)).1.trans (hUU U2 hbU2))
  have KVz2 : Hid (Vz2.cell? ⟨w.heap.size, 0, none⟩ = some u ∧ Vz2.cell? ⟨w.heap.size, 1, none⟩ = some v) := HS.out Vz2 ((HO2.out w.heap.size (by omega)).2.2.2.trans (hUU U2 hbU2))
  have KA3 : Hid (A3.cell? ⟨w.heap.size, 0, none⟩ = some u ∧ A3.cell? ⟨w.heap.size, 1, none⟩ = some v) := HS.out A3 ((HO3.out w.heap.size (by omega)).2.1.trans (hUU U2 hbU2))
  have KB3 : Hid (B3.cell? ⟨w.heap.size, 0, none⟩ = some u ∧ B3.cell? ⟨w.heap.size, 1, none⟩ = some v) := HS.out B3 ((HO3.out w.heap.size (by omega)).1.trans (hUU U2 hbU2))
  have KVz3 : Hid (Vz3.cell? ⟨w.heap.size, 0, none⟩ = some u ∧ Vz3.cell? ⟨w.heap.size, 1, none⟩ = some v) := HS.out Vz3 ((HO3.out w.heap.size (by omega)).2.2.2.trans (hUU U2 hbU2))
  have KU1 : Hid (U1.cell? ⟨w.heap.size, 0, none⟩ = some u ∧ U1.cell? ⟨w.heap.size, 1, none⟩ = some v) := HS.out _ (hUU U1 hbU1)
  have KU2 : Hid (U2.cell? ⟨w.heap.size, 0, none⟩ = some u ∧ U2.cell? ⟨w.heap.size, 1, none⟩ = some v) := HS.out _ (hUU U2 hbU2)
  have RA1 := hid hA1.run
  have RB1 := hid hB1.run
  have RA2 := hid hA2.run
  have RB2 := hid hB2.run
  have RA3 := hid hA3.run
  have RB3 := hid hB3.run
  obtain ⟨p, c, rfl, _⟩ := h
  obtain ⟨q, d, rfl, _⟩ := h'
  clear hb0 hs0 g0 g1 HX hbU1 hsU1 hbU2' hbU2 m1 m2 m3 HD hA1 hB1 hA2 hB2 hA3 hB3 y1 y2 y3 hbA1 hbY1 hbA2 hbA3 hsA1 hbxU1 hbxU2 hsU2 hUU HS hsY1 hsA2 hsA3 HO1 HO2 HO3
  go_enter Try.func7, Try.ntmps7
  go_wp2_with fail
  go_region_held3 (fun w' => w'.cell? ⟨w.heap.size, 0, none⟩ = some (.slice p bs.length c) ∧ w'.cell? ⟨w.heap.size, 1, none⟩ = some (.slice q ss.length d))
    (first | exact KA1.out | exact KY1.out | exact KB1.out | exact KVz1.out | exact KA2.out | exact KB2.out | exact KVz2.out | exact KA3.out | exact KB3.out | exact KVz3.out | exact KU1.out | exact KU2.out | go_keep)
    ((first
      | (refine step_append _ rfl _ _ rfl (.slice (some ⟨W0.heap.size, 0, none⟩) 0 0) (.slice p bs.length c) (.slice pa1 bs.length ca1) A1 rfl rfl (by with_reducible exact RA1.out) ?_)
      | (refine step_append _ rfl _ _ rfl (.slice (some ⟨W0.heap.size, 0, none⟩) 0 0) (.slice p bs.length c) (.slice pa2 bs.length ca2) A2 rfl rfl (by with_reducible exact RA2.out) ?_)
      | (refine step_append _ rfl _ _ rfl (.slice (some ⟨U1.heap.size, 0, none⟩) 0 0) (.slice q ss.length d) (.slice pb2 ss.length cb2) B2 rfl rfl (by with_reducible exact RB2.out) ?_)
      | (refine step_append _ rfl _ _ rfl (.slice (some ⟨U1.heap.size, 0, none⟩) 0 0) (.slice p bs.length c) (.slice pa3 bs.length ca3) A3 rfl rfl (by with_reducible exact RA3.out) ?_)
      | (refine step_append _ rfl _ _ rfl (.slice (some ⟨W0.heap.size, 0, none⟩) 0 0) (.slice q ss.length d) (.slice pb3 ss.length cb3) B3 rfl rfl (by with_reducible exact RB3.out) ?_)
      | (refine step_append _ rfl _ _ rfl (.slice (some ⟨A1.heap.size, 0, none⟩) 0 0) (.slice q ss.length d) (.slice pb1 ss.length cb1) B1 rfl rfl (by with_reducible exact RB1.out) ?_)))
  all_goals go_wp2_with fail
  all_goals first
    | exact bodyPost_ret (v := .agg #[.slice pa1 bs.length ca1, .slice pb1 ss.length cb1]) (by simp [results, Try.results7, go_sem, p15, p16]) rfl ⟨_, _, _, _, rfl, HN1.out.1, HN1.out.2, HV1.out, HR1.out⟩
    | exact bodyPost_ret (v := .agg #[.slice pa2 bs.length ca2, .slice pb2 ss.length cb2]) (by simp [results, Try.results7, go_sem, p25, p26]) rfl ⟨_, _, _, _, rfl, HN2.out.1, HN2.out.2, HV2.out, HR2.out⟩
    | exact bodyPost_ret (v := .agg #[.slice pa3 bs.length ca3, .slice pb3 ss.length cb3]) (by simp [results, Try.results7, go_sem, p35, p36]) rfl ⟨_, _, _, _, rfl, HN3.out.1, HN3.out.2, HV3.out, HR3.out⟩
end Go.Proofs.Ytdcgppdljcokpaa
