/- Rows of their own memory: what copyRows and the reference's CopyRows answer. -/
import Derived.Test.YtmagfjlpjjmknaaDoorXb
import Derived.Laws.CopyRow
import Derived.Laws.CopyOwn
import Derived.Laws.OwnMore
import Derived.Laws.MakeOwn
import Derived.Deep.AppendLies
import Derived.Maps.AppendAt
namespace Go.Proofs.YtmagfjlpjjmknaaDoor
open Go.RowKit Go.Lib Go.Sort
set_option linter.unusedVariables false
set_option linter.unusedSimpArgs false
attribute [local go_sem ↓] Go.wp_at_zero Go.wp_at_succ

/-- The cells of a row's values, in order. -/
def flat (xs : List Val) : List Value := xs.flatMap fun x => [.int .u8 x.k, .bool x.b, .int .i64 x.n, .string x.s]
theorem flat_length : ∀ xs : List Val, (flat xs).length = xs.length * 4
  | [] => rfl
  | x :: xs => by
    have := flat_length xs
    simp only [flat, List.flatMap_cons, List.length_append, List.length_cons, List.length_nil] at this ⊢
    omega
theorem flat_one (xs : List Val) : ∀ u ∈ flat xs, u.oneCell' = true := by
  intro u hu
  simp only [flat, List.mem_flatMap] at hu
  obtain ⟨x, _, hu⟩ := hu
  simp only [List.mem_cons, List.not_mem_nil, or_false] at hu
  rcases hu with rfl | rfl | rfl | rfl <;> rfl
theorem flat_cells {w : World} {blk : Nat} : ∀ (xs : List Val) (off : Nat), RowIs w blk off xs → ∀ j u, (flat xs)[j]? = some u → w.cell? ⟨blk, off + j, none⟩ = some u
  | [], _, _, j, u, hu => by simp [flat] at hu
  | x :: xs, off, h, j, u, hu => by
    have ih := flat_cells (w := w) (blk := blk) xs (off + 4) (fun i hi => by
      have := h (i + 1) (by simp; omega)
      rw [show off + (i + 1) * 4 = off + 4 + i * 4 by omega] at this
      simpa using this)
    have h0 := h 0 (by simp)
    simp only [Nat.zero_mul, Nat.add_zero, List.getElem_cons_zero] at h0
    match j with
    | 0 => simp [flat] at hu; subst hu; exact h0.1
    | 1 => simp [flat] at hu; subst hu; exact h0.2.1
    | 2 => simp [flat] at hu; subst hu; exact h0.2.2.1
    | 3 => simp [flat] at hu; subst hu; exact h0.2.2.2
    | j + 4 =>
      have := ih j u (by simpa [flat] using hu)
      rw [show off + (j + 4) = off + 4 + j by omega]
      exact this
theorem flat_add {w : World} {blk off : Nat} {xs : List Val} (h : RowIs w blk off xs) : ∀ j u, (flat xs)[j]? = some u → w.cell? ((⟨blk, off, none⟩ : Addr).add j) = some u := fun j u hu => by
  have hadd : (⟨blk, off, none⟩ : Addr).add j = ⟨blk, off + j, none⟩ := by unfold Addr.add; split <;> simp_all
  rw [hadd]
  exact flat_cells xs off h j u hu

/-- A row's cells, whatever its slice is. -/
def RowC (w : World) (p : Option Addr) (xs : List Val) : Prop :=
  (p = none ∧ xs = []) ∨ ∃ ad, p = some ad ∧ ∀ j u, (flat xs)[j]? = some u → w.cell? (ad.add j) = some u ∧ ad.block < w.heap.size
theorem RowV.cells {w : World} {v : Value} {xs : List Val} (h : RowV w v xs) : ∃ p c, v = .slice p xs.length c ∧ ((p = none ∧ xs = []) ∨ (xs = [] ∧ ∃ a, p = some a) ∨ ∃ b o, p = some ⟨b, o, none⟩ ∧ b < w.heap.size ∧ ∀ j u, (flat xs)[j]? = some u → w.cell? ((⟨b, o, none⟩ : Addr).add j) = some u) := by
  obtain ⟨hl, ⟨p, c, rfl, rfl⟩ | ⟨b, o, c, rfl, hr, hb⟩⟩ := h
  · refine ⟨p, c, rfl, ?_⟩
    cases p with
    | none => exact .inl ⟨rfl, rfl⟩
    | some a => exact .inr (.inl ⟨rfl, a, rfl⟩)
  · exact ⟨_, c, rfl, .inr (.inr ⟨b, o, rfl, hb, flat_add hr⟩)⟩
theorem info24 : ∃ i0, Tryd.prog.info? 30 = some i0 ∧ i0.zero = some (.agg #[.int .u8 0, .bool false, .int .i64 0, .string ⟨#[]⟩]) ∧ i0.size = 4 ∧ i0.bytes = 32 := by
  have h1 : (Tryd.prog.info? 30).bind (·.zero) = some (.agg #[.int .u8 0, .bool false, .int .i64 0, .string ⟨#[]⟩]) := by kernel_rfl
  have h2 : (Tryd.prog.info? 30).map (·.size) = some 4 := by kernel_rfl
  have h3 : (Tryd.prog.info? 30).map (·.bytes) = some 32 := by kernel_rfl
  generalize Tryd.prog.info? 30 = i at *
  cases i with
  | none => cases h1
  | some i => exact ⟨i, rfl, h1, Option.some.inj h2, Option.some.inj h3⟩
/-- A row that is copied into another one of its length. -/
theorem run_copy4 (w0 w : World) (ty : TypeId) (g n : Nat) (v : Value) (xs : List Val) (hx : xs.length = n) (cur : Array Value) (hg : w.heap[g]? = some (.cells cur 30 (0, 0))) (hcs : cur.size = n * 4) (hr : RowV w0 v xs) (hb : Below w0.heap.size w0 w) :
    (Builtin.copy_ #[38, 38] ty #[.slice (some ⟨g, 0, none⟩) n n, v]).run Tryd.prog w = .ok (goInt n) (w.setRow g (flat xs).toArray) := by
  obtain ⟨i0, hi, hz0, hz1, hz2⟩ := info24
  have hst := run_storeCells_at Tryd.prog g 0 30 (flat xs) 0 cur w hg (by rw [flat_length, hx, hcs]; omega) (flat_one xs)
  have e : (cur.toList.take (0 + 0) ++ flat xs ++ cur.toList.drop (0 + 0 + (flat xs).length)).toArray = (flat xs).toArray := by
    rw [List.drop_of_length_le (by rw [flat_length, hx, Array.length_toList, hcs]; omega)]; simp
  rw [e] at hst
  obtain ⟨p, c, rfl, hc⟩ := hr.cells
  rw [hx]
  rcases hc with ⟨rfl, rfl⟩ | ⟨rfl, a, rfl⟩ | ⟨b, o, rfl, hlt, hc⟩
  · have : n = 0 := by simpa using hx.symm
    subst this
    simp only [flat, List.flatMap_nil] at hst
    simp [Builtin.copy_, run_underlying Tryd.underlying38, Builtin.lenOf, Builtin.firstCells, sizeOf, typeInfo, hi, hz1, flat, hst]
  · have : n = 0 := by simpa using hx.symm
    subst this
    have hl : (loadCells a 0).run Tryd.prog w = .ok #[] w := by simpa using run_loadCells_list (P := Tryd.prog) w a [] (by simp)
    simp only [flat, List.flatMap_nil] at hst
    simp [Builtin.copy_, run_underlying Tryd.underlying38, Builtin.lenOf, Builtin.firstCells, sizeOf, typeInfo, hi, hz1, flat, hst, hl]
  · have hl := run_loadCells_list (P := Tryd.prog) w ⟨b, o, none⟩ (flat xs) (fun j u hu => by
      rw [hb.cell (by unfold Addr.add; split <;> exact hlt)]; exact hc j u hu)
    rw [flat_length, hx] at hl
    simp [Builtin.copy_, run_underlying Tryd.underlying38, Builtin.lenOf, Builtin.firstCells, sizeOf, typeInfo, hi, hz1, hst, hl]

/-- A row that lies in memory of its own. -/
def OwnR (base : Nat) (W : World) (u : Value) (xs : List Val) : Prop := W.ownsRow base 30 4 u xs.length (flat xs)
/-- Rows that are being copied: those ahead of the place i are. -/
def CopyJ (w : World) (n i : Nat) (rs : List (List Val)) (wx : World) : Prop :=
  ∃ cur : Array Value, wx.heap[w.heap.size]? = some (.cells cur 38 (0, 0)) ∧ cur.size = n ∧ Below w.heap.size w wx ∧ ∀ j (h : j < rs.length), j < i → ∃ u, cur[j]? = some u ∧ OwnR (w.heap.size + 1) wx u rs[j]
theorem copy_step {w wr : World} {n i m : Nat} {rs : List (List Val)} {xs : List Val} (hJ : CopyJ w n i rs wr) (hi : i < n) (hn : rs.length = n) (hx : rs[i]? = some xs) (hm : xs.length = m) (Z : Array Value) (hmax : m ≤ maxLen) :
    CopyJ w n (i + 1) rs (((wr.alloc (.cells Z 30)).setCell ⟨w.heap.size, i, none⟩ (.slice (some ⟨wr.heap.size, 0, none⟩) m m)).setRow wr.heap.size (flat xs).toArray) := by
  obtain ⟨cur, hg, hc, hb, hr⟩ := hJ
  have hlt : w.heap.size < wr.heap.size := (Array.getElem?_eq_some_iff.1 hg).1
  have g1 : (wr.alloc (.cells Z 30)).heap[w.heap.size]? = some (.cells cur 38 (0, 0)) := by rw [heap_alloc_old wr _ hlt]; exact hg
  have g2 := heap_setCell_same (wr.alloc (.cells Z 30)) w.heap.size i cur 38 (.slice (some ⟨wr.heap.size, 0, none⟩) m m) g1
  have n1 : (wr.alloc (.cells Z 30)).heap[wr.heap.size]? = some (.cells Z 30 (0, 0)) := heap_alloc_new wr _
  have n2 : ((wr.alloc (.cells Z 30)).setCell ⟨w.heap.size, i, none⟩ (.slice (some ⟨wr.heap.size, 0, none⟩) m m)).heap[wr.heap.size]? = some (.cells Z 30 (0, 0)) := by
    rw [heap_setCell_other _ ⟨w.heap.size, i, none⟩ wr.heap.size _ (by show wr.heap.size ≠ w.heap.size; omega)]; exact n1
  generalize hW2 : (wr.alloc (.cells Z 30)).setCell ⟨w.heap.size, i, none⟩ (.slice (some ⟨wr.heap.size, 0, none⟩) m m) = W2 at g2 n2
  have gr2 : wr.grownBy W2 (some w.heap.size) := by
    subst hW2
    refine ⟨rfl, rfl, rfl, by simp [World.setCell], fun k hk hne => ?_⟩
    rw [heap_setCell_other _ ⟨w.heap.size, i, none⟩ k _ (by intro e; exact hne (by rw [show k = w.heap.size from e])), heap_alloc_old wr _ hk]
  have gr3 : wr.grownBy (W2.setRow wr.heap.size (flat xs).toArray) (some w.heap.size) := by
    refine ⟨gr2.os, gr2.tape, gr2.output, Nat.le_trans gr2.size (by simp [World.setRow]), fun k hk hne => ?_⟩
    rw [setRow_other W2 wr.heap.size k _ (by omega)]
    exact gr2.block k hk hne
  refine ⟨cur.setIfInBounds i (.slice (some ⟨wr.heap.size, 0, none⟩) m m), ?_, by simpa using hc, ?_, ?_⟩
  · rw [setRow_other W2 wr.heap.size _ _ (by omega)]; exact g2
  · exact ⟨gr3.os.trans hb.os, gr3.tape.trans hb.tape, gr3.output.trans hb.output, Nat.le_trans hb.size gr3.size, fun k hk => (gr3.block k (by omega) (by simp; omega)).trans (hb.block k hk)⟩
  · intro j hj hji
    by_cases e : j = i
    · subst e
      refine ⟨.slice (some ⟨wr.heap.size, 0, none⟩) m m, by rw [Array.getElem?_setIfInBounds_self_of_lt (by omega)], ?_⟩
      have ex : rs[j] = xs := by
        rw [List.getElem?_eq_getElem hj] at hx
        exact Option.some.inj hx
      unfold OwnR
      rw [ex, hm]
      exact ⟨by rw [flat_length, hm], .inr ⟨_, _, _, rfl, by omega, setRow_heap W2 wr.heap.size Z _ 30 _ n2, Nat.le_refl _, hmax, by simp [flat_length, hm], by rw [List.take_of_length_le (by simp [flat_length, hm])]⟩⟩
    · obtain ⟨u, h1, h2⟩ := hr j hj (by omega)
      refine ⟨u, by rw [Array.getElem?_setIfInBounds_ne (by omega)]; exact h1, h2.kept gr3 ?_⟩
      cases ho : u.ownBlock with
      | none => exact .inl rfl
      | some k => exact .inr (by have := (h2.lt k ho).1; simp; omega)

/-- A list of rows, all of it in memory of its own. -/
def OwnL (base : Nat) (W : World) (v : Value) (rs : List (List Val)) : Prop :=
  ∃ g cap, v = .slice (some ⟨g, 0, none⟩) rs.length cap ∧ base ≤ g ∧ g < W.heap.size ∧ ∀ j (h : j < rs.length), ∃ u, W.cell? ⟨g, j, none⟩ = some u ∧ W.frozen? ⟨g, j, none⟩ = false ∧ OwnR base W u rs[j] ∧ u.ownBlock ≠ some g
theorem CopyJ.own {w W : World} {n i : Nat} {rs : List (List Val)} (h : CopyJ w n i rs W) (hn : rs.length = n) (hi : n ≤ i) (cap : Nat) : OwnL w.heap.size W (.slice (some ⟨w.heap.size, 0, none⟩) rs.length cap) rs := by
  obtain ⟨cur, hg, hc, hb, hr⟩ := h
  refine ⟨_, cap, rfl, Nat.le_refl _, (Array.getElem?_eq_some_iff.1 hg).1, fun j hj => ?_⟩
  obtain ⟨u, h1, h2⟩ := hr j hj (by omega)
  refine ⟨u, ?_, frozen_zero hg j, ?_, fun e => ?_⟩
  · simp [World.cell?, hg, h1]
  · obtain ⟨hl, h | ⟨g, cap, cur, h0, h1, rest⟩⟩ := h2
    · exact ⟨hl, .inl h⟩
    · exact ⟨hl, .inr ⟨g, cap, cur, h0, by omega, rest⟩⟩
  · have := (h2.lt _ e).1
    omega
theorem info38b : ∃ i0, Tryd.prog.info? 38 = some i0 ∧ i0.zero = some (.slice none 0 0) ∧ i0.size = 1 ∧ i0.bytes = 24 := info38
set_option maxRecDepth 100000 in
set_option maxHeartbeats 4000000 in
theorem copyRows_any (v : Value) (rs : List (List Val)) (w : World) (h : RowsL w v rs) (hn : rs.length * 24 ≤ 140737488355328) (hr : ∀ r ∈ rs, r.length * 32 ≤ 140737488355328) :
    Calls Tryd.prog 26 #[v] w fun e w' => ∃ u, e = .returned u ∧ OwnL w.heap.size w' u rs ∧ Below w.heap.size w w' := by
  obtain ⟨p, c, rfl, hl, hp⟩ := h
  have HP : Hid (0 < rs.length → ∃ b o, p = some ⟨b, o, none⟩ ∧ b < w.heap.size ∧ ∀ j (h : j < rs.length), ∃ u, w.cell? ⟨b, o + j, none⟩ = some u ∧ RowV w u rs[j]) := hp
  have HR : Hid (∀ r ∈ rs, r.length * 32 ≤ 140737488355328) := hr
  clear hp hr
  have hmk : ∀ W : World, ∃ Z : Array Value, Z.size = rs.length ∧ (Instr.makeSlice 35 (.int .i64 (rs.length : Int)) (.int .i64 (rs.length : Int))).run Tryd.prog W = .ok (.slice (some ⟨W.heap.size, 0, none⟩) rs.length rs.length) (W.alloc (.cells Z 38)) := fun W => by
    obtain ⟨i0, hi, hz0, hz1, hz2⟩ := info38b
    have := run_make (P := Tryd.prog) (w := W) 35 38 i0 _ Tryd.underlying35 hi hz0 .i64 .i64 (rs.length : Int) (rs.length : Int) (by omega) (by omega) (by rw [hz2]; omega) (by omega)
    rw [hz1] at this
    refine ⟨madeCells (Value.slice none 0 0).cells (rs.length * 1), by rw [size_madeCells]; try omega, ?_⟩
    simpa using this
  obtain ⟨Z0, hZ0, hmk0⟩ := hmk w
  have HJ0 : Hid (CopyJ w rs.length 0 rs (w.alloc (.cells Z0 38))) := ⟨Z0, heap_alloc_new w _, hZ0, (Below.refl _ _).alloc (Nat.le_refl _) _, fun j _ h => by omega⟩
  clear hmk hZ0
  go_enter Tryd.func26, Tryd.ntmps26
  go_wp2_with fail
  generalize w.alloc (.cells Z0 38) = w1 at HJ0 ⊢
  clear hmk0
  go_loopg [11] rs.length (fun gf s11 wx => ∃ i : Nat, s11 = .int .i64 i ∧ i ≤ rs.length ∧ rs.length ≤ i + gf ∧ Hid (CopyJ w rs.length i rs wx))
  case atStart => exact ⟨0, rfl, by omega, by omega, HJ0⟩
  case round =>
    clear HJ0
    obtain ⟨i, rfl, hi1, hgf, HJ⟩ := hrel
    by_cases hi : i < rs.length
    · obtain ⟨g', rfl⟩ : ∃ g', gk = g' + 1 := ⟨gk - 1, by omega⟩
      obtain ⟨b, o, rfl, hB, hc⟩ := HP.out (by omega)
      obtain ⟨u, x0, x1⟩ := hc i hi
      obtain ⟨cur, hg, hcs, hbw, _⟩ := HJ.out
      have hlt : w.heap.size < wr.heap.size := (Array.getElem?_eq_some_iff.1 hg).1
      rw [← hbw.cell (p := ⟨b, _, none⟩) hB] at x0
      have hm0 := HR.out _ (List.getElem_mem hi)
      obtain ⟨m, hm⟩ : ∃ m, rs[i].length = m := ⟨_, rfl⟩
      have hmk : ∃ Z : Array Value, Z.size = m * 4 ∧ (Instr.makeSlice 38 (.int .i64 (m : Int)) (.int .i64 (m : Int))).run Tryd.prog wr = .ok (.slice (some ⟨wr.heap.size, 0, none⟩) m m) (wr.alloc (.cells Z 30)) := by
        obtain ⟨i0, hi, hz0, hz1, hz2⟩ := info24
        have := run_make (P := Tryd.prog) (w := wr) 38 30 i0 _ Tryd.underlying38 hi hz0 .i64 .i64 (m : Int) (m : Int) (by omega) (by omega) (by rw [hz2]; omega) (by omega)
        rw [hz1] at this
        refine ⟨madeCells (Value.agg #[.int .u8 0, .bool false, .int .i64 0, .string ⟨#[]⟩]).cells (m * 4), by rw [size_madeCells]; try omega, ?_⟩
        simpa using this
      obtain ⟨Z, hZ, hmk⟩ := hmk
      have st := copy_step (m := m) HJ.out hi rfl (List.getElem?_eq_getElem hi) hm Z (by unfold maxLen; omega)
      have y0 : (wr.alloc (.cells Z 30)).cell? ⟨w.heap.size, i, none⟩ = some (cur[i]'(by omega)) := by
        rw [World.cell?_of_block (w := wr) (heap_alloc_old wr _ hlt)]
        simp [World.cell?, hg, hcs, hi]
      have y1 : (wr.alloc (.cells Z 30)).frozen? ⟨w.heap.size, i, none⟩ = false := by
        rw [World.frozen?_of_block (w := wr) (heap_alloc_old wr _ hlt)]
        exact frozen_zero hg i
      have y2 : ((wr.alloc (.cells Z 30)).setCell ⟨w.heap.size, i, none⟩ (.slice (some ⟨wr.heap.size, 0, none⟩) m m)).cell? ⟨w.heap.size, i, none⟩ = some (.slice (some ⟨wr.heap.size, 0, none⟩) m m) := World.cell?_setCell_same _ _ _ y0
      have hcp := run_copy4 w ((wr.alloc (.cells Z 30)).setCell ⟨w.heap.size, i, none⟩ (.slice (some ⟨wr.heap.size, 0, none⟩) m m)) 3 wr.heap.size m u rs[i] hm Z (by
          rw [heap_setCell_other _ ⟨w.heap.size, i, none⟩ wr.heap.size _ (by show wr.heap.size ≠ w.heap.size; omega)]; exact heap_alloc_new wr _) hZ x1 (by
          refine ⟨hbw.os, hbw.tape, hbw.output, ?_, fun k hk => ?_⟩
          · simp [World.setCell]; omega
          · rw [heap_setCell_other _ ⟨w.heap.size, i, none⟩ k _ (by show k ≠ w.heap.size; omega), heap_alloc_old wr _ (by omega)]; exact hbw.block k hk)
      obtain ⟨W1, hW1⟩ : ∃ W1, wr.alloc (.cells Z 30) = W1 := ⟨_, rfl⟩
      rw [hW1] at st hmk y0 y1 y2 hcp
      obtain ⟨W3, hW3⟩ : ∃ W3, (W1.setCell ⟨w.heap.size, i, none⟩ (.slice (some ⟨wr.heap.size, 0, none⟩) m m)).setRow wr.heap.size (flat rs[i]).toArray = W3 := ⟨_, rfl⟩
      rw [hW3] at st hcp
      clear hW1 hW3
      obtain ⟨q, c2, rfl, _, _⟩ := x1.form
      rw [hm] at x0 hcp
      have ST : Hid (CopyJ w rs.length (i + 1) rs W3) := st
      have hz0 : (0 : Int) ≤ (i : Int) := by omega
      have hz1 : (i : Int) < (rs.length : Int) := by omega
      clear st hc x1 hm hm0 hZ HJ HP HR hg hbw
      generalize cur[i]'(by omega) = old at y0
      clear hcs
      go_wp2_with fail
      go_roundg g'
      case measure => omega
      case rel => exact ⟨i + 1, by go_num, by omega, by omega, ST⟩
    · have HF : Hid (OwnL w.heap.size wr (.slice (some ⟨w.heap.size, 0, none⟩) rs.length rs.length) rs ∧ Below w.heap.size w wr) := by
        obtain ⟨cur, hg, hcs, hbw, hr⟩ := HJ.out
        exact ⟨CopyJ.own HJ.out rfl (by omega) _, hbw⟩
      have hz1 : ¬ (i : Int) < (rs.length : Int) := by omega
      clear HP HR HJ
      go_wp2_with fail
      go_ret
      exact ⟨_, rfl, HF.out⟩
end Go.Proofs.YtmagfjlpjjmknaaDoor
