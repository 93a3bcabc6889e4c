/- A row that is copied, its texts, too: what copyRow answers. -/
import Derived.Test.YthfoijnjgdeaaaaDoorPd
namespace Go.Proofs.YthfoijnjgdeaaaaDoor
open Go.Shelf Go.RowKit Go.Lib Go.Sort
set_option linter.unusedVariables false
set_option linter.unusedSimpArgs false
attribute [local go_sem ↓] Go.wp_at_zero Go.wp_at_succ
/-- A row that is being copied. -/
def CpJ (w : World) (xs : List Val) (i : Nat) (wx : World) : Prop :=
  ∃ cur : Array Value, wx.heap[w.heap.size]? = some (.cells cur 64 (0, 0)) ∧ cur.size = xs.length * 4 ∧ Below w.heap.size w wx ∧ ∀ j, j < i * 4 → cur[j]? = (flat xs)[j]?
theorem set_row {W : World} {g k : Nat} {cur : Array Value} (hg : W.heap[g]? = some (.cells cur 64 (0, 0))) (hk : k < cur.size) (v : Value) :
    (∃ o, W.cell? ⟨g, k, none⟩ = some o) ∧ W.frozen? ⟨g, k, none⟩ = false ∧ (W.setCell ⟨g, k, none⟩ v).heap[g]? = some (.cells (cur.setIfInBounds k v) 64 (0, 0)) ∧ ∀ B w0, Below B w0 W → B ≤ g → Below B w0 (W.setCell ⟨g, k, none⟩ v) := by
  refine ⟨⟨cur[k], by simp [World.cell?, hg, hk]⟩, frozen_zero hg k, heap_setCell_same W g k cur 64 v hg, fun B w0 hb hB => ⟨hb.os, hb.tape, hb.output, by simp [World.setCell]; exact hb.size, fun j hj => ?_⟩⟩
  rw [heap_setCell_other _ ⟨g, k, none⟩ j _ (by show j ≠ g; omega)]
  exact hb.block j hj
theorem copy_four {w w2 : World} {xs : List Val} {i : Nat} {cur : Array Value} {xk : Int} {xb : Bool} {xn : Int} {xt : ByteArray} (hg : w2.heap[w.heap.size]? = some (.cells cur 64 (0, 0))) (hcs : cur.size = xs.length * 4) (hb : Below w.heap.size w w2)
    (hcur : ∀ j, j < i * 4 → cur[j]? = (flat xs)[j]?) (hi : i < xs.length) (hx : xs[i] = ⟨xk, xb, xn, xt⟩) :
    ∃ Wa Wb Wc Wd, w2.setCell ⟨w.heap.size, i * 4, none⟩ (.int .u8 xk) = Wa ∧ Wa.setCell ⟨w.heap.size, i * 4 + 1, none⟩ (.bool xb) = Wb ∧ Wb.setCell ⟨w.heap.size, i * 4 + 2, none⟩ (.int .i64 xn) = Wc ∧ Wc.setCell ⟨w.heap.size, i * 4 + 3, none⟩ (.string xt) = Wd ∧
      (∃ o, w2.cell? ⟨w.heap.size, i * 4, none⟩ = some o) ∧ w2.frozen? ⟨w.heap.size, i * 4, none⟩ = false ∧ (∃ o, Wa.cell? ⟨w.heap.size, i * 4 + 1, none⟩ = some o) ∧ Wa.frozen? ⟨w.heap.size, i * 4 + 1, none⟩ = false ∧
      (∃ o, Wb.cell? ⟨w.heap.size, i * 4 + 2, none⟩ = some o) ∧ Wb.frozen? ⟨w.heap.size, i * 4 + 2, none⟩ = false ∧ (∃ o, Wc.cell? ⟨w.heap.size, i * 4 + 3, none⟩ = some o) ∧ Wc.frozen? ⟨w.heap.size, i * 4 + 3, none⟩ = false ∧ CpJ w xs (i + 1) Wd := by
  obtain ⟨a1, a2, a3, a4⟩ := set_row hg (k := i * 4) (by omega) (.int .u8 xk)
  obtain ⟨b1, b2, b3, b4⟩ := set_row a3 (k := i * 4 + 1) (by simp; omega) (.bool xb)
  obtain ⟨c1, c2, c3, c4⟩ := set_row b3 (k := i * 4 + 2) (by simp; omega) (.int .i64 xn)
  obtain ⟨d1, d2, d3, d4⟩ := set_row c3 (k := i * 4 + 3) (by simp; omega) (.string xt)
  have hbd := d4 _ _ (c4 _ _ (b4 _ _ (a4 _ _ hb (Nat.le_refl _)) (Nat.le_refl _)) (Nat.le_refl _)) (Nat.le_refl _)
  refine ⟨_, _, _, _, rfl, rfl, rfl, rfl, a1, a2, b1, b2, c1, c2, d1, d2, _, d3, by simpa using hcs, hbd, fun j hj => ?_⟩
  obtain ⟨f0, f1, f2, f3⟩ := flat_at xs i hi
  rw [hx] at f0 f1 f2 f3
  simp only [Array.getElem?_setIfInBounds, Array.size_setIfInBounds]
  by_cases e3 : i * 4 + 3 = j
  · subst e3; rw [f3, if_pos rfl, if_pos (by omega)]
  rw [if_neg e3]
  by_cases e2 : i * 4 + 2 = j
  · subst e2; rw [f2, if_pos rfl, if_pos (by omega)]
  rw [if_neg e2]
  by_cases e1 : i * 4 + 1 = j
  · subst e1; rw [f1, if_pos rfl, if_pos (by omega)]
  rw [if_neg e1]
  by_cases e0 : i * 4 = j
  · subst e0; rw [f0, if_pos rfl, if_pos (by omega)]
  rw [if_neg e0]
  exact hcur j (by omega)
set_option maxRecDepth 100000 in
set_option maxHeartbeats 4000000 in
theorem copyRow_any (v : Value) (xs : List Val) (w : World) (h : RowV w v xs) (hn : xs.length * 32 ≤ 140737488355328) (hs : ∀ x ∈ xs, x.s.size ≤ 281474976710656) :
    Calls Tryd.prog 31 #[v] w fun e w' => ∃ u, e = .returned u ∧ OwnR w.heap.size w' u xs ∧ Below w.heap.size w w' := by
  obtain ⟨p, c, rfl, hl, hp⟩ := h.form
  have HP : Hid (0 < xs.length → ∃ b o, p = some ⟨b, o, none⟩ ∧ RowIs w b o xs ∧ b < w.heap.size) := hp
  have HS : Hid (∀ x ∈ xs, x.s.size ≤ 281474976710656) := hs
  clear hp hs h
  obtain ⟨Z, hZ, hmk⟩ : ∃ Z : Array Value, Z.size = xs.length * 4 ∧ (Instr.makeSlice 25 (.int .i64 (xs.length : Int)) (.int .i64 (xs.length : Int))).run Tryd.prog w = .ok (.slice (some ⟨w.heap.size, 0, none⟩) xs.length xs.length) (w.alloc (.cells Z 64)) := by
    obtain ⟨i0, hi, hz0, hz1, hz2⟩ := infoVal
    have := run_make (P := Tryd.prog) (w := w) 25 64 i0 _ Tryd.underlying25 hi hz0 .i64 .i64 (xs.length : Int) (xs.length : Int) (by omega) (by omega) (by rw [hz2]; omega) (by omega)
    rw [hz1] at this
    refine ⟨madeCells (Value.agg #[.int .u8 0, .bool false, .int .i64 0, .string ⟨#[]⟩]).cells (xs.length * 4), by rw [size_madeCells], ?_⟩
    simpa using this
  have HJ : Hid (CpJ w xs 0 (w.alloc (.cells Z 64))) := ⟨Z, heap_alloc_new w _, hZ, (Below.refl _ _).alloc (Nat.le_refl _) _, fun j h => by omega⟩
  obtain ⟨W1, hW1⟩ : ∃ W1, w.alloc (.cells Z 64) = W1 := ⟨_, rfl⟩
  rw [hW1] at HJ hmk
  clear hZ hW1
  go_enter Tryd.func31, Tryd.ntmps31
  go_wp2_with fail
  go_loopg [11] xs.length (fun gf s11 wx => ∃ i : Nat, s11 = .int .i64 i ∧ i ≤ xs.length ∧ xs.length ≤ i + gf ∧ Hid (CpJ w xs i wx))
  case atStart => exact ⟨0, rfl, by omega, by omega, HJ⟩
  case round =>
    clear HJ
    obtain ⟨i, rfl, hi1, hgf, HJ⟩ := hrel
    by_cases hi : i < xs.length
    · obtain ⟨g', rfl⟩ : ∃ g', gk = g' + 1 := ⟨gk - 1, by omega⟩
      obtain ⟨b, o, rfl, hr, hB⟩ := HP.out (by omega)
      obtain ⟨x0, x1, x2, x3⟩ := hr i hi
      have hbw : Below w.heap.size w wr := by obtain ⟨_, _, _, h, _⟩ := HJ.out; exact h
      rw [← hbw.cell (p := ⟨b, _, none⟩) hB] at x0 x1 x2 x3
      have hsx := HS.out xs[i] (List.getElem_mem hi)
      obtain ⟨⟨xk, xb, xn, xt⟩, hxv⟩ : ∃ v, xs[i] = v := ⟨_, rfl⟩
      rw [hxv] at x0 x1 x2 x3 hsx
      simp only at x0 x1 x2 x3 hsx
      have hz0 : (0 : Int) ≤ (i : Int) := by omega
      have hz1 : (i : Int) < (xs.length : Int) := by omega
      obtain ⟨cur, hg, hcs, _, hcur⟩ := HJ.out
      have hglt : w.heap.size < wr.heap.size := (Array.getElem?_eq_some_iff.1 hg).1
      have CC : Hid (∀ W, Calls Tryd.prog 51 #[.string xt] W fun e w' => e = .returned (.string xt) ∧ Below W.heap.size W w') := fun W => clone_any xt W hsx
      clear hr hsx
      go_wp2_with fail
      refine (CC.out _).mono ?_
      rintro e w2 ⟨rfl, hb2⟩
      have hbx : w2.heap[wr.heap.size]? = some (.cells #[.int .u8 xk, .bool xb, .int .i64 xn, .string xt] 64 (0, 0)) := by
        rw [hb2.block _ (by simp)]; exact heap_alloc_new wr _
      have hg2 : w2.heap[w.heap.size]? = some (.cells cur 64 (0, 0)) := by
        rw [hb2.block _ (by simp; omega), heap_alloc_old wr _ hglt]; exact hg
      have hbw2 : Below w.heap.size w w2 := hbw.trans (((Below.refl wr.heap.size wr).alloc (Nat.le_refl _) _).trans (hb2.mono (by simp)) |>.mono hbw.size)
      have hst : w2.setCell ⟨wr.heap.size, 3, none⟩ (.string xt) = w2 := by
        rw [setCell_eq_setRow w2 wr.heap.size 3 _ 64 (0, 0) _ hbx]
        exact setRow_self w2 wr.heap.size _ 64 (0, 0) hbx
      have b0 : w2.cell? ⟨wr.heap.size, 0, none⟩ = some (.int .u8 xk) := by simp [World.cell?, hbx]
      have b1 : w2.cell? ⟨wr.heap.size, 1, none⟩ = some (.bool xb) := by simp [World.cell?, hbx]
      have b2 : w2.cell? ⟨wr.heap.size, 2, none⟩ = some (.int .i64 xn) := by simp [World.cell?, hbx]
      have b3 : w2.cell? ⟨wr.heap.size, 3, none⟩ = some (.string xt) := by simp [World.cell?, hbx]
      have bf : w2.frozen? ⟨wr.heap.size, 3, none⟩ = false := frozen_zero hbx 3
      obtain ⟨Wa, Wb, Wc, Wd, hWa, hWb, hWc, hWd, ca, fa, cb, fb, cc, fc, cd, fd, hJd⟩ := copy_four (w := w) (xs := xs) (i := i) hg2 hcs hbw2 hcur hi hxv
      have HJ2 : Hid (CpJ w xs (i + 1) Wd) := hJd
      obtain ⟨oa, ca⟩ := ca
      obtain ⟨ob, cb⟩ := cb
      obtain ⟨oc, cc⟩ := cc
      obtain ⟨od, cd⟩ := cd
      clear hb2 CC x0 x1 x2 x3 hJd hg hg2 hcs hcur hbx hbw2 hbw HJ hxv
      go_wp2_with fail
      go_roundg g'
      case measure => omega
      case rel => exact ⟨i + 1, by go_num, by omega, by omega, HJ2⟩
    · have hz1 : ¬ (i : Int) < (xs.length : Int) := by omega
      have HF : Hid (OwnR w.heap.size wr (.slice (some ⟨w.heap.size, 0, none⟩) xs.length xs.length) xs ∧ Below w.heap.size w wr) := by
        obtain ⟨cur, hg, hcs, hbw, hcur⟩ := HJ.out
        refine ⟨⟨flat_length xs, .inr ⟨_, _, cur, rfl, Nat.le_refl _, hg, Nat.le_refl _, by unfold maxLen; omega, hcs, ?_⟩⟩, hbw⟩
        apply List.ext_getElem?
        intro j
        by_cases hj : j < xs.length * 4
        · rw [List.getElem?_take_of_lt hj, ← hcur j (by omega)]; simp
        · rw [List.getElem?_eq_none (by simp; omega), List.getElem?_eq_none (by rw [flat_length]; omega)]
      clear HJ HP HS
      go_wp2_with fail
      go_ret
      exact ⟨_, rfl, HF.out⟩
end Go.Proofs.YthfoijnjgdeaaaaDoor
/- A table's shards: what is known of them while they are made. -/
namespace Go.Proofs.YthfoijnjgdeaaaaDoor
open Go.Shelf Go.RowKit Go.Lib Go.Sort
set_option linter.unusedVariables false
set_option linter.unusedSimpArgs false
/-- A list of rows, all of it in memory that was made. -/
def PartR (base : Nat) (W : World) (v : Value) (ks : List (List Val)) : Prop := ∃ hs, W.ownsRow base 25 1 v ks.length hs ∧ ∀ m (h : m < ks.length), ∃ u, hs[m]? = some u ∧ OwnR base W u ks[m]
theorem PartR.kept {base : Nat} {W W' : World} {v : Value} {ks : List (List Val)} {row : Option Nat} (h : PartR base W v ks) (hg : W.grownBy W' row) (hne : v.ownBlock = none ∨ v.ownBlock ≠ row) (hr : ∀ u xs, OwnR base W u xs → u.ownBlock = none ∨ u.ownBlock ≠ row) : PartR base W' v ks := by
  obtain ⟨hs, ho, hu⟩ := h
  refine ⟨hs, ho.kept hg hne, fun m hm => ?_⟩
  obtain ⟨u, h1, h2⟩ := hu m hm
  exact ⟨u, h1, World.ownsRow.kept h2 hg (hr u _ h2)⟩
/-- Shards that are being made. -/
def SplJ (w1 : World) (S : Nat) (PT : Nat → List (List Val)) (wx : World) : Prop :=
  ∃ (cur : Array Value) (U : Nat → Value), wx.heap[w1.heap.size]? = some (.cells cur 27 (0, 0)) ∧ cur.size = S ∧ (∀ j, j < S → cur[j]? = some (U j)) ∧ Below w1.heap.size w1 wx ∧ (∀ j, j < S → PartR (w1.heap.size + 1) wx (U j) (PT j)) ∧
    ∀ i j, i < S → j < S → i ≠ j → (U i).ownBlock = none ∨ (U i).ownBlock ≠ (U j).ownBlock
theorem grown_of_below {W W' : World} (hb : Below W.heap.size W W') : W.grownBy W' none := ⟨hb.os, hb.tape, hb.output, hb.size, fun k hk _ => hb.block k hk⟩
theorem PartR.below {base : Nat} {W W' : World} {v : Value} {ks : List (List Val)} (h : PartR base W v ks) (hb : Below W.heap.size W W') : PartR base W' v ks :=
  h.kept (grown_of_below hb) (by cases v.ownBlock <;> simp) (fun u xs _ => by cases u.ownBlock <;> simp)
theorem SplJ.below {w1 W W' : World} {S : Nat} {PT : Nat → List (List Val)} (h : SplJ w1 S PT W) (hb : Below W.heap.size W W') : SplJ w1 S PT W' := by
  obtain ⟨cur, U, hg, hc, hu, hB, hp, hd⟩ := h
  exact ⟨cur, U, by rw [hb.block _ (Array.getElem?_eq_some_iff.1 hg).1]; exact hg, hc, hu, hB.trans (hb.mono hB.size), fun j hj => (hp j hj).below hb, hd⟩
/-- One row more. -/
theorem split_step {w1 wr w2 : World} {S s : Nat} {PT : Nat → List (List Val)} {q : Value} {r : List Val} (hJ : SplJ w1 S PT wr) (hs : s < S) (hb : Below wr.heap.size wr w2) (hq : OwnR wr.heap.size w2 q r) (hn : ((PT s).length + 1) * 24 ≤ 140737488355328) (ty : TypeId) :
    ∃ v0 v' W', wr.cell? ⟨w1.heap.size, s, none⟩ = some v0 ∧ (∃ p n c, v0 = .slice p n c) ∧ (∃ p n c, v' = .slice p n c) ∧ (Builtin.append_ #[27, 27] ty #[v0, .slice (some ⟨w2.heap.size, 0, none⟩) 1 1]).run Tryd.prog (w2.alloc (.cells #[q] 25)) = .ok v' W' ∧
      W'.cell? ⟨w1.heap.size, s, none⟩ = some v0 ∧ W'.frozen? ⟨w1.heap.size, s, none⟩ = false ∧ SplJ w1 S (fun j => if j = s then PT j ++ [r] else PT j) (W'.setCell ⟨w1.heap.size, s, none⟩ v') := by
  obtain ⟨i0, hi, hz0, hz1, hz2⟩ := info38
  have hlt0 : w1.heap.size < wr.heap.size := by obtain ⟨_, _, hg, _⟩ := hJ; exact (Array.getElem?_eq_some_iff.1 hg).1
  have hcell0 : ∀ cur : Array Value, ∀ v, wr.heap[w1.heap.size]? = some (.cells cur 27 (0, 0)) → cur[s]? = some v → wr.cell? ⟨w1.heap.size, s, none⟩ = some v := fun cur v hg hc => by simp [World.cell?, hg, hc]
  have hwr := hJ
  obtain ⟨cur0, U0, hg0, _, hu0, _⟩ := hwr
  obtain ⟨cur, U, hg, hc, hu, hB, hp, hd⟩ := hJ.below hb
  have eU : U0 s = U s := by
    have h1 := hu0 s hs
    have h2 := hu s hs
    rw [hb.block _ hlt0, hg0] at hg
    simp only [Option.some.injEq, Obj.cells.injEq, and_true] at hg
    rw [hg] at h1
    rw [h1] at h2
    exact Option.some.inj h2
  obtain ⟨hs', hown, hrows⟩ := hp s hs
  have hg2 : w1.heap.size < w2.heap.size := (Array.getElem?_eq_some_iff.1 hg).1
  obtain ⟨v', W', e, h2, h3, _, h5⟩ := run_append_own_at (P := Tryd.prog) (w2.alloc (.cells #[q] 25)) (w1.heap.size + 1) 27 ty 25 i0 _ 1 24 Tryd.underlying27 hi hz0 hz1 hz2 rfl (by omega) (U s) (PT s).length hs' (hown.alloc _) ⟨w2.heap.size, 0, none⟩ 1 1 [q] rfl
    (cell_one_new w2 q 25) (by simpa using ownR_one hq) (by unfold maxLen; omega) (by omega) (by simp; omega)
  have gA : w2.grownBy (w2.alloc (.cells #[q] 25)) (U s).ownBlock := World.grownBy_alloc w2 _ _
  have g3 : w2.grownBy W' (U s).ownBlock := World.grownBy.trans gA h3
  have hG : W'.heap[w1.heap.size]? = some (.cells cur 27 (0, 0)) := by
    rw [g3.block _ hg2 (fun e => by have := (hown.lt _ e.symm).1; omega)]; exact hg
  have hq' : OwnR (w1.heap.size + 1) w2 q r := by
    obtain ⟨hl, h | ⟨g, cap, cu, h0, h1, rest⟩⟩ := hq
    · exact ⟨hl, .inl h⟩
    · exact ⟨hl, .inr ⟨g, cap, cu, h0, by omega, rest⟩⟩
  have hap : ∀ u xs, OwnR (w1.heap.size + 1) w2 u xs → u.ownBlock = none ∨ u.ownBlock ≠ (U s).ownBlock := fun u xs h => own_apart hown h
  have gS : W'.grownBy (W'.setCell ⟨w1.heap.size, s, none⟩ v') (some w1.heap.size) := ⟨rfl, rfl, rfl, by simp [World.setCell], fun k _ hk => heap_setCell_other W' ⟨w1.heap.size, s, none⟩ k v' (fun e => hk (by rw [show k = w1.heap.size from e]))⟩
  have hbase : ∀ u xs, OwnR (w1.heap.size + 1) W' u xs → u.ownBlock = none ∨ u.ownBlock ≠ some w1.heap.size := fun u xs h => by
    cases ho : u.ownBlock with
    | none => exact .inl rfl
    | some k => exact .inr (by have := (h.lt k ho).1; simp; omega)
  have hbaseP : ∀ v ks, PartR (w1.heap.size + 1) W' v ks → v.ownBlock = none ∨ v.ownBlock ≠ some w1.heap.size := fun v ks h => by
    obtain ⟨hs, ho, _⟩ := h
    cases hb : v.ownBlock with
    | none => exact .inl rfl
    | some k => exact .inr (by have := (ho.lt k hb).1; simp; omega)
  have hPs : PartR (w1.heap.size + 1) W' v' (PT s ++ [r]) := by
    have hul : hs'.length = (PT s).length := by simpa using hown.1
    refine ⟨hs' ++ [q], by simpa using h2, fun m hm => ?_⟩
    by_cases hm' : m < (PT s).length
    · obtain ⟨u, h1, h2⟩ := hrows m hm'
      exact ⟨u, by rw [List.getElem?_append_left (by omega)]; exact h1, by rw [List.getElem_append_left hm']; exact World.ownsRow.kept h2 g3 (hap u _ h2)⟩
    · have : m = (PT s).length := by simp at hm; omega
      subst this
      exact ⟨q, by rw [List.getElem?_append_right (by omega), hul, Nat.sub_self]; rfl, by
        have e : (PT s ++ [r])[(PT s).length]'hm = r := by rw [List.getElem_append_right (by omega)]; simp
        rw [e]
        exact World.ownsRow.kept hq' g3 (hap q _ hq')⟩
  have hPj : ∀ j, j < S → j ≠ s → PartR (w1.heap.size + 1) W' (U j) (PT j) := fun j hj hne => (hp j hj).kept g3 (hd j s hj hs hne) hap
  have form : ∀ v : Value, ∀ n xs, (∃ W : World, W.ownsRow (w1.heap.size + 1) 25 1 v n xs) → ∃ p n c, v = .slice p n c := fun v n xs ⟨W, h⟩ => by
    obtain ⟨_, ⟨rfl, _⟩ | ⟨g, cap, cu, rfl, _⟩⟩ := h <;> exact ⟨_, _, _, rfl⟩
  refine ⟨U s, v', W', by rw [← eU]; exact hcell0 cur0 _ hg0 (hu0 s hs), form _ _ _ ⟨_, hown⟩, form _ _ _ ⟨_, h2⟩, e, by simp [World.cell?, hG, hu s hs], frozen_zero hG s, cur.setIfInBounds s v', fun j => if j = s then v' else U j, heap_setCell_same W' w1.heap.size s cur 27 v' hG, by simpa using hc, fun j hj => ?_, ?_, fun j hj => ?_, fun i j hi hj hij => ?_⟩
  · by_cases e : j = s
    · subst e; simp only [if_true]; rw [Array.getElem?_setIfInBounds_self_of_lt (by omega)]
    · simp only [if_neg e]; rw [Array.getElem?_setIfInBounds_ne (Ne.symm e)]; exact hu j hj
  · have hb3 : Below w1.heap.size w1 W' := grown_below hB g3 (fun k hk => by have := (hown.lt k hk).1; omega)
    exact grown_below hb3 gS (fun k hk => by simp only [Option.some.injEq] at hk; omega)
  · by_cases e : j = s
    · subst e
      simp only [if_true]
      exact hPs.kept gS (hbaseP _ _ hPs) hbase
    · simp only [if_neg e]
      exact (hPj j hj e).kept gS (hbaseP _ _ (hPj j hj e)) hbase
  · have hlt' : ∀ j, j < S → ∀ k, (U j).ownBlock = some k → k < w2.heap.size := fun j hj k hk => by
      obtain ⟨hs, ho, _⟩ := hp j hj
      exact (ho.lt k hk).2
    by_cases e1 : i = s
    · subst e1
      have hji : j ≠ i := Ne.symm hij
      simp only [if_true, if_neg hji]
      rcases h5 with h5 | h5
      · rw [h5]; exact hd i j hi hj hij
      · refine .inr fun e => ?_
        rw [h5] at e
        have := hlt' j hj _ e.symm
        simp at this
        omega
    · simp only [if_neg e1]
      by_cases e2 : j = s
      · subst e2
        simp only [if_true]
        rcases h5 with h5 | h5
        · rw [h5]; exact hd i j hi hj hij
        · cases ho : (U i).ownBlock with
          | none => exact .inl rfl
          | some k =>
            refine .inr fun e => ?_
            rw [h5] at e
            have := hlt' i hi k ho
            simp only [Option.some.injEq] at e
            simp at e
            omega
      · simp only [if_neg e2]
        exact hd i j hi hj hij
end Go.Proofs.YthfoijnjgdeaaaaDoor
