/- Batches that are sent: what Send answers. -/
import Derived.Test.YtcmiphgeakdonaaAt
namespace Go.Proofs.Ytcmiphgeakdonaa
open Go.Shelf Go.RowKit Go.Lib Go.Sort
set_option linter.unusedVariables false
set_option linter.unusedSimpArgs false
attribute [local go_sem ↓] Go.wp_at_zero Go.wp_at_succ
theorem fold_at (off : Nat) : ∀ (l : List Value) (n : Nat) (cells : Array Value), off + n + l.length ≤ cells.size →
    ((l.zipIdx n).foldl (fun cs (p : Value × Nat) => cs.setIfInBounds (off + p.2) p.1) cells).size = cells.size ∧ ∀ k, ((l.zipIdx n).foldl (fun cs (p : Value × Nat) => cs.setIfInBounds (off + p.2) p.1) cells)[k]? = if off + n ≤ k ∧ k < off + n + l.length then l[k - (off + n)]? else cells[k]?
  | [], n, cells, h => ⟨rfl, fun k => by rw [if_neg (by simp)]; rfl⟩
  | v :: l, n, cells, h => by
    simp only [List.zipIdx_cons, List.foldl_cons, List.length_cons] at h ⊢
    obtain ⟨h1, h2⟩ := fold_at off l (n + 1) (cells.setIfInBounds (off + n) v) (by simp; omega)
    refine ⟨by rw [h1]; simp, fun k => ?_⟩
    rw [h2 k]
    by_cases hk : k = off + n
    · subst hk
      rw [if_neg (by omega), if_pos (by omega), Array.getElem?_setIfInBounds_self_of_lt (by omega), show off + n - (off + n) = 0 by omega]
      rfl
    · rw [Array.getElem?_setIfInBounds_ne (by omega)]
      by_cases hr : off + (n + 1) ≤ k ∧ k < off + (n + 1) + l.length
      · rw [if_pos hr, if_pos (by omega), show k - (off + n) = k - (off + (n + 1)) + 1 by omega, List.getElem?_cons_succ]
      · rw [if_neg hr, if_neg (by omega)]
theorem fill_fold (off : Nat) (vs cells : Array Value) : vs.zipIdx.foldl (fun cs (p : Value × Nat) => cs.setIfInBounds (off + p.2) p.1) cells = (vs.toList.zipIdx 0).foldl (fun cs (p : Value × Nat) => cs.setIfInBounds (off + p.2) p.1) cells := by
  rw [← Array.foldl_toList, Array.toList_zipIdx]
/-- All cells at once. -/
theorem fold_whole (vs cells : Array Value) (h : vs.size = cells.size) : vs.zipIdx.foldl (fun cs (p : Value × Nat) => cs.setIfInBounds (0 + p.2) p.1) cells = vs := by
  rw [fill_fold]
  obtain ⟨h1, h2⟩ := fold_at 0 vs.toList 0 cells (by simp; omega)
  apply Array.ext_getElem?
  intro k
  rw [h2 k]
  by_cases hk : k < vs.size
  · rw [if_pos (by simp; omega)]; simp
  · rw [if_neg (by simp; omega), Array.getElem?_eq_none (by omega), Array.getElem?_eq_none (by omega)]
theorem msg_fill (X : Array Value) (hX : X.size = 47) (i0 : TypeInfo) (h3 : i0.size = 47) : Instr.fill (fun i => some (i * i0.size, i0.size)) ((Array.range (1 * i0.size)).map ((Value.agg zM).cells[· % (Value.agg zM).cells.size]!)) [(0, .agg X)] = some X := by
  have hzs : zM.size = 47 := by kernel_rfl
  have ha : (Value.agg X).cells = X := rfl
  have hz : (Value.agg zM).cells = zM := rfl
  simp only [Instr.fill, ha, hz, h3, hzs]
  rw [if_neg (by simp [hX])]
  simp only [Nat.zero_mul]
  rw [fold_whole X _ (by simp [hX])]
theorem wp_build5 {P : Program} {op : Oper} {a : Act} {w : World} {K : Act → World → Prop} {Q : Exit → Act → World → Prop} (t : TypeId) (i1 i2 i3 i4 i5 : Nat) (x1 x2 x3 x4 x5 : Operand) (ho : op.op = .build t #[(i1, x1), (i2, x2), (i3, x3), (i4, x4), (i5, x5)]) (v1 v2 v3 v4 v5 : Value) (h1 : a.eval x1 = v1) (h2 : a.eval x2 = v2) (h3 : a.eval x3 = v3) (h4 : a.eval x4 = v4) (h5 : a.eval x5 = v5) (v' : Value) (hr : (Instr.build t #[(i1, v1), (i2, v2), (i3, v3), (i4, v4), (i5, v5)]).run P w = .ok v' w) (h : K (a.put op.dst v') w) : op.wp P a w K Q := by
  unfold Oper.wp execOp
  simp only [ho, List.map_toArray, List.map_cons, List.map_nil, h1, h2, h3, h4, h5, Sem.run_bind, hr, Result.andThen_ok]
  exact h
theorem outE_ok {x : Ot} (h : outE x = 0) : 0 < x.b.length ∧ x.b.length ≤ 512 ∧ x.a ≤ x.b.length ∧ (x.b.take (x.b.length - 1)).any notFull = false ∧ lastP ((x.b[x.b.length - 1]?.getD []).length) x.b.length = true := by
  unfold outE at h
  split at h
  · cases h
  · split at h
    · cases h
    · split at h
      · cases h
      · split at h
        · cases h
        · split at h
          · rename_i h1 h2 h3 h4 h5
            exact ⟨by omega, by omega, by omega, by simpa using h4, h5⟩
          · cases h
/-- How many are sent. -/
def sendN (x : Ot) : Nat := min x.b.length (x.a + 4) - x.a
def sendM (x : Ot) (k : Nat) : Mg := ⟨x.m, x.a + k, decide (x.a + k + 1 = x.b.length), x.b[x.a + k]?.getD []⟩
def sendP (x : Ot) : List Mg := (List.range (sendN x)).map (sendM x)
theorem sendP_take (x : Ot) (k : Nat) (hk : k < sendN x) : (sendP x).take (k + 1) = (sendP x).take k ++ [sendM x k] := by
  have hl : (sendP x).length = sendN x := by unfold sendP; simp
  rw [List.take_succ_eq_append_getElem (by omega)]
  unfold sendP
  simp
def SndR (w : World) (x : Ot) (e : Ending) (w' : World) : Prop := ∃ u, e = .returned (.tuple #[u, .int .i64 0]) ∧ OwnR rMg 47 62 w.heap.size w' u (sendP x) ∧ Below w.heap.size w w'
set_option maxRecDepth 100000 in
set_option maxHeartbeats 4000000 in
theorem send_any (cs : List Value) (x : Ot) (K : Nat → Prop) (w : World) (h : rOut K w cs x) (hx0 : outE x = 0) (hK : ∀ b, K b → b < w.heap.size) :
    Calls Try.prog 8 #[.agg cs.toArray] w fun e w' => SndR w x e w' := by
  obtain ⟨o1, o2, o3, _, _⟩ := outE_ok hx0
  obtain ⟨q, c, rfl, ⟨hok, ha⟩, hl, hcap, hby⟩ := out_cells h
  obtain ⟨W0, hW0⟩ : ∃ W0, w.alloc (.cells #[.int .u64 (x.m.qb : Int), .int .u64 (x.m.qn : Int), .int .i64 x.m.at_, .int .i64 x.m.fr, .int .i64 x.m.tq, .slice q x.b.length c, .int .u64 (x.a : Int)] 29) = W0 := ⟨_, rfl⟩
  have hb0 : Below w.heap.size w W0 := by rw [← hW0]; exact (Below.refl _ _).alloc (Nat.le_refl _) _
  have hg0 : W0.heap[w.heap.size]? = some (.cells #[.int .u64 (x.m.qb : Int), .int .u64 (x.m.qn : Int), .int .i64 x.m.at_, .int .i64 x.m.fr, .int .i64 x.m.tq, .slice q x.b.length c, .int .u64 (x.a : Int)] 29 (0, 0)) := by rw [← hW0]; exact heap_alloc_new w _
  have hs0 : w.heap.size < W0.heap.size := (Array.getElem?_eq_some_iff.1 hg0).1
  have HV : Hid (∀ V, Below W0.heap.size W0 V → V.rangeAt w.heap.size 0 [.int .u64 (x.m.qb : Int), .int .u64 (x.m.qn : Int), .int .i64 x.m.at_, .int .i64 x.m.fr, .int .i64 x.m.tq] ∧ V.cell? ⟨w.heap.size, 5, none⟩ = some (.slice q x.b.length c) ∧ V.cell? ⟨w.heap.size, 6, none⟩ = some (.int .u64 (x.a : Int)) ∧ Below w.heap.size w V ∧ rOut K V [.int .u64 (x.m.qb : Int), .int .u64 (x.m.qn : Int), .int .i64 x.m.at_, .int .i64 x.m.fr, .int .i64 x.m.tq, .slice q x.b.length c, .int .u64 (x.a : Int)] x ∧ (∀ b, K b → b < V.heap.size) ∧ ListIs rBch 1 24 K V (.slice q x.b.length c) x.b) := fun V hb => by
    have hbw := hb0.trans (hb.mono hb0.size)
    have hkk := kept_of hK hbw
    have hgV := (hb.block _ hs0).trans hg0
    refine ⟨fun j u hu => ?_, cell_of_row (k := 5) hgV rfl, cell_of_row (k := 6) hgV rfl, hbw, mOut _ _ _ _ _ _ (fun _ h => h) hkk h, fun b hb' => Nat.lt_of_lt_of_le (hK b hb') hbw.size, hl.mono mBch (fun _ h => h) hkk⟩
    rw [Nat.zero_add]
    refine cell_of_row hgV ?_
    match j, hu with
    | 0, hu => exact hu
    | 1, hu => exact hu
    | 2, hu => exact hu
    | 3, hu => exact hu
    | 4, hu => exact hu
  obtain ⟨v1, v2, v3, v4, v5, v6, v7⟩ := HV.out W0 (Below.refl _ _)
  have C1 : Hid (Calls Try.prog 15 #[.agg #[.int .u64 (x.m.qb : Int), .int .u64 (x.m.qn : Int), .int .i64 x.m.at_, .int .i64 x.m.fr, .int .i64 x.m.tq, .slice q x.b.length c, .int .u64 (x.a : Int)]] W0 fun e w' => e = .returned (.int .i64 0) ∧ Below W0.heap.size W0 w') := by have := checkOut_any _ x K W0 v5 v6; rw [hx0] at this; exact this
  have HR0 : Hid (W0.rangeAt w.heap.size 0 [.int .u64 (x.m.qb : Int), .int .u64 (x.m.qn : Int), .int .i64 x.m.at_, .int .i64 x.m.fr, .int .i64 x.m.tq, .slice q x.b.length c, .int .u64 (x.a : Int)]) := fun j u hu => by rw [Nat.zero_add]; exact cell_of_row hg0 (by simpa using hu)
  have HS0 : Hid (w.heap.size < W0.heap.size) := hs0
  have hN : sendN x = min x.b.length (x.a + 4) - x.a := rfl
  obtain ⟨N, hNN⟩ : ∃ N, sendN x = N := ⟨_, rfl⟩
  have HN : Hid (sendN x = N) := hNN
  have hNl : N ≤ 4 ∧ x.a + N ≤ x.b.length := by rw [← hNN, hN]; omega
  have hNm : x.a + N = x.b.length ∨ N = 4 := by rw [← hNN, hN]; omega
  have hm9 : (x.b.length : Int) % 18446744073709551616 = (x.b.length : Int) := by omega
  have hn4 : ((x.a : Int) + 4) % 18446744073709551616 = (x.a : Int) + 4 := by omega
  have HOK : Hid (okS x.m) := hok
  clear h hx0 hK hl hcap hby hok hb0 hg0 hs0 v1 v2 v3 v4 v5 v6 v7 hN hNN
  go_enter Try.func8, Try.ntmps8
  go_wp2_with (refine wpList_load_mid rfl 29 _ rfl w.heap.size 0 rfl _ _ HR0.out Try.underlying29 rfl sz_Out ?_)
  refine C1.out.mono ?_
  rintro e w1 ⟨rfl, hb1⟩
  obtain ⟨v1, v2, v3, v4, v5, v6, v7⟩ := HV.out w1 hb1
  have HB1 : Hid (Below W0.heap.size W0 w1) := hb1
  clear v1 v4 v5 v6 v7 hb1 C1 HR0 hW0
  go_wp2_with fail
  have hmin : min (x.b.length : Int) ((x.a : Int) + 4) = (x.a : Int) + (N : Int) := by omega
  go_loopg [6, 7] N (fun gf s6 s7 wx => ∃ (u : Value) (i k : Nat), u = s6 ∧ s7 = .int .u64 (i : Int) ∧ x.a ≤ i ∧ i ≤ x.a + N ∧ x.a + N ≤ i + gf ∧ Hid (i = x.a + k) ∧ Hid (OwnR rMg 47 62 W0.heap.size wx u ((sendP x).take k)) ∧ Hid (Below W0.heap.size W0 wx))
  case atStart => exact ⟨_, x.a, 0, rfl, rfl, by omega, by omega, by omega, rfl, OwnR.none (World.ownsRow_nil _ _ _ _), HB1⟩
  case round =>
    obtain ⟨u, i, k, rfl, rfl, hi1, hi2, hgf, HIK, HJ, HB⟩ := hrel
    clear v2 v3 HB1
    obtain ⟨v1, v2, v3, v4, v5, v6, v7⟩ := HV.out wr HB.out
    by_cases hk : i < x.a + N
    · obtain ⟨g', rfl⟩ : ∃ g', gk = g' + 1 := ⟨gk - 1, by omega⟩
      have hib : i < x.b.length := by omega
      obtain ⟨bb, o, pm, cm, rfl, hKb, hcell, hlm⟩ := bch_at v7 i hib
      obtain ⟨ym, hy⟩ : ∃ ym, x.b[i] = ym := ⟨_, rfl⟩
      have hgd : x.b[i]?.getD [] = ym := by rw [List.getElem?_eq_getElem hib]; exact hy
      rw [hy] at hcell hlm
      obtain ⟨lb, hlb⟩ : ∃ lb, decide (i + 1 = x.b.length) = lb := ⟨_, rfl⟩
      have he : ((i : Int) == (x.b.length : Int) - 1) = lb := by
        rw [← hlb]
        by_cases e : i + 1 = x.b.length
        · rw [decide_eq_true e]; simp; omega
        · rw [decide_eq_false e]; exact beq_eq_false_iff_ne.2 (by omega)
      have hs1 : IntKind.u64.wrap ((x.b.length : Int) - 1) = (x.b.length : Int) - 1 := by rw [IntKind.wrap_u64]; omega
      have z1 : (i : Int) < (x.a : Int) + (N : Int) := by omega
      have z2 : (i : Int) < (x.b.length : Int) := by omega
      have z3 : (0 : Int) ≤ (i : Int) := by omega
      have hi9 : ((i : Int) + 1) % 18446744073709551616 = (i : Int) + 1 := by omega
      have HSM : Hid (sendM x k = ⟨x.m, i, lb, ym⟩) := by
        show _ = _
        unfold sendM
        rw [← HIK.out, hgd, hlb]
      have HTK : Hid ((sendP x).take (k + 1) = (sendP x).take k ++ [⟨x.m, i, lb, ym⟩]) := by
        show _ = _
        rw [sendP_take x k (by rw [HN.out]; have := HIK.out; omega), HSM.out]
      obtain ⟨w4, hw4⟩ : ∃ w4, wr.drew = w4 := ⟨_, rfl⟩
      have hb4 : Below wr.heap.size wr w4 := by rw [← hw4]; exact (Below.refl _ _).drew
      have hB4 : Below W0.heap.size W0 w4 := HB.out.trans (hb4.mono HB.out.size)
      obtain ⟨y1, y2, y3, y4, y5, y6, y7⟩ := HV.out w4 hB4
      have hlm4 : ListIs rRow 1 24 K w4 (.slice pm ym.length cm) ym := hlm.mono mRow (fun _ h => h) (kept_of v6 hb4)
      have HSall : Hid (∀ V, Below w4.heap.size w4 V → V.rangeAt w.heap.size 0 [.int .u64 (x.m.qb : Int), .int .u64 (x.m.qn : Int), .int .i64 x.m.at_, .int .i64 x.m.fr, .int .i64 x.m.tq] ∧ V.cell? ⟨w.heap.size, 5, none⟩ = some (.slice (some ⟨bb, o, none⟩) x.b.length c) ∧ V.cell? ⟨bb, o + i, none⟩ = some (.slice pm ym.length cm)) := fun V hV => by
        obtain ⟨t1, t2, _⟩ := HV.out V (hB4.trans (hV.mono hB4.size))
        refine ⟨t1, t2, ?_⟩
        rw [hV.cell (p := ⟨bb, o + i, none⟩) (y6 bb hKb), ← hw4]
        exact hcell
      have C18 : Hid (Calls Try.prog 27 #[.slice pm ym.length cm] w4 fun e w' => CpP rRow 1 24 ym w4 e w') := f_rows K w4 _ _ hlm4 y6
      have HJ4 : Hid (OwnR rMg 47 62 W0.heap.size w4 u ((sendP x).take k)) := HJ.out.keep mMg hb4
      have HB4 : Hid (Below W0.heap.size W0 w4) := hB4
      have HBL : Hid (bb < w4.heap.size ∧ bb < W0.heap.size) := ⟨y6 bb hKb, (HV.out W0 (Below.refl _ _)).2.2.2.2.2.1 bb hKb⟩
      have HI9 : Hid (i < 512) := by show _ < _; omega
      have HK4 : Hid (k ≤ 4) := by have := HIK.out; show _ ≤ _; omega
      clear v1 v4 v5 v6 v7 y1 y2 y3 y4 y5 y6 y7 hlm hlm4 hb4 hB4 hKb hlb hy hgd hcell HSM HJ HB
      go_wp2_with fail
      refine wp_region_held_drew (S := fun V => V.rangeAt w.heap.size 0 [.int .u64 (x.m.qb : Int), .int .u64 (x.m.qn : Int), .int .i64 x.m.at_, .int .i64 x.m.fr, .int .i64 x.m.tq] ∧ V.cell? ⟨w.heap.size, 5, none⟩ = some (.slice (some ⟨bb, o, none⟩) x.b.length c) ∧ V.cell? ⟨bb, o + i, none⟩ = some (.slice pm ym.length cm)) (by kernel_rfl) (by rw [hw4]; exact HSall.out w4 (Below.refl _ _)) (fun hHeld => ?_)
      refine wpAnyH_take (i := 0) (v := u) rfl (by kernel_rfl) (by kernel_rfl) (by kernel_rfl) (fun _ _ _ h => h) (.inl ⟨by rfl, fun W hW => by obtain ⟨_, h5, h6⟩ := hW; go_simp⟩) hHeld ?_
      simp only [Act.put, List.getElem_toArray, List.getElem_cons_zero, List.getElem_cons_succ, List.setIfInBounds_toArray, List.set_cons_zero, List.set_cons_succ]
      refine wpAnyH_take (i := 1) (v := .pointer (some ⟨w.heap.size, 0, none⟩)) rfl (by kernel_rfl) (by kernel_rfl) (by kernel_rfl) (fun _ _ _ h => h) (.inl ⟨by rfl, fun W hW => by obtain ⟨_, h5, h6⟩ := hW; go_simp⟩) hHeld ?_
      simp only [Act.put, List.getElem_toArray, List.getElem_cons_zero, List.getElem_cons_succ, List.setIfInBounds_toArray, List.set_cons_zero, List.set_cons_succ]
      refine wpAnyH_take (i := 2) (v := .agg #[.int .u64 (x.m.qb : Int), .int .u64 (x.m.qn : Int), .int .i64 x.m.at_, .int .i64 x.m.fr, .int .i64 x.m.tq]) rfl (by kernel_rfl) (by kernel_rfl) (by kernel_rfl) (fun _ _ _ h => h) (yieldsIf_load_mid (by rfl) 26 (.tmp 29) rfl w.heap.size 0 rfl [.int .u64 (x.m.qb : Int), .int .u64 (x.m.qn : Int), .int .i64 x.m.at_, .int .i64 x.m.fr, .int .i64 x.m.tq] _ (fun W hW => hW.1) Try.underlying26 rfl sz_Strm) hHeld ?_
      simp only [Act.put, List.getElem_toArray, List.getElem_cons_zero, List.getElem_cons_succ, List.setIfInBounds_toArray, List.set_cons_zero, List.set_cons_succ]
      refine wpAnyH_take (i := 3) (v := .int .u64 (i : Int)) rfl (by kernel_rfl) (by kernel_rfl) (by kernel_rfl) (fun _ _ _ h => h) (.inl ⟨by rfl, fun W hW => by obtain ⟨_, h5, h6⟩ := hW; go_simp⟩) hHeld ?_
      simp only [Act.put, List.getElem_toArray, List.getElem_cons_zero, List.getElem_cons_succ, List.setIfInBounds_toArray, List.set_cons_zero, List.set_cons_succ]
      refine wpAnyH_take (i := 4) (v := .int .u64 (i : Int)) rfl (by kernel_rfl) (by kernel_rfl) (by kernel_rfl) (fun _ _ _ h => h) (.inl ⟨by rfl, fun W hW => by obtain ⟨_, h5, h6⟩ := hW; go_simp⟩) hHeld ?_
      simp only [Act.put, List.getElem_toArray, List.getElem_cons_zero, List.getElem_cons_succ, List.setIfInBounds_toArray, List.set_cons_zero, List.set_cons_succ]
      refine wpAnyH_take (i := 5) (v := .int .u64 (x.b.length : Int)) rfl (by kernel_rfl) (by kernel_rfl) (by kernel_rfl) (fun _ _ _ h => h) (.inl ⟨by rfl, fun W hW => by obtain ⟨_, h5, h6⟩ := hW; go_simp⟩) hHeld ?_
      simp only [Act.put, List.getElem_toArray, List.getElem_cons_zero, List.getElem_cons_succ, List.setIfInBounds_toArray, List.set_cons_zero, List.set_cons_succ]
      refine wpAnyH_take (i := 6) (v := .int .u64 ((x.b.length : Int) - 1)) rfl (by kernel_rfl) (by kernel_rfl) (by kernel_rfl) (fun _ _ _ h => h) (.inl ⟨by rfl, fun W hW => by obtain ⟨_, h5, h6⟩ := hW; go_simp⟩) hHeld ?_
      simp only [Act.put, List.getElem_toArray, List.getElem_cons_zero, List.getElem_cons_succ, List.setIfInBounds_toArray, List.set_cons_zero, List.set_cons_succ]
      refine wpAnyH_take (i := 7) (v := .bool lb) rfl (by kernel_rfl) (by kernel_rfl) (by kernel_rfl) (fun _ _ _ h => h) (.inl ⟨by rfl, fun W hW => by obtain ⟨_, h5, h6⟩ := hW; go_simp⟩) hHeld ?_
      simp only [Act.put, List.getElem_toArray, List.getElem_cons_zero, List.getElem_cons_succ, List.setIfInBounds_toArray, List.set_cons_zero, List.set_cons_succ]
      refine wpAnyH_take (i := 8) (v := .pointer (some ⟨w.heap.size, 5, none⟩)) rfl (by kernel_rfl) (by kernel_rfl) (by kernel_rfl) (fun _ _ _ h => h) (.inl ⟨by rfl, fun W hW => by obtain ⟨_, h5, h6⟩ := hW; go_simp⟩) hHeld ?_
      simp only [Act.put, List.getElem_toArray, List.getElem_cons_zero, List.getElem_cons_succ, List.setIfInBounds_toArray, List.set_cons_zero, List.set_cons_succ]
      refine wpAnyH_take (i := 9) (v := .slice (some ⟨bb, o, none⟩) x.b.length c) rfl (by kernel_rfl) (by kernel_rfl) (by kernel_rfl) (fun _ _ _ h => h) (.inl ⟨by rfl, fun W hW => by obtain ⟨_, h5, h6⟩ := hW; go_simp⟩) hHeld ?_
      simp only [Act.put, List.getElem_toArray, List.getElem_cons_zero, List.getElem_cons_succ, List.setIfInBounds_toArray, List.set_cons_zero, List.set_cons_succ]
      refine wpAnyH_take (i := 10) (v := .int .u64 (i : Int)) rfl (by kernel_rfl) (by kernel_rfl) (by kernel_rfl) (fun _ _ _ h => h) (.inl ⟨by rfl, fun W hW => by obtain ⟨_, h5, h6⟩ := hW; go_simp⟩) hHeld ?_
      simp only [Act.put, List.getElem_toArray, List.getElem_cons_zero, List.getElem_cons_succ, List.setIfInBounds_toArray, List.set_cons_zero, List.set_cons_succ]
      refine wpAnyH_take (i := 11) (v := .pointer (some ⟨bb, o + i, none⟩)) rfl (by kernel_rfl) (by kernel_rfl) (by kernel_rfl) (fun _ _ _ h => h) (.inl ⟨by rfl, fun W hW => by obtain ⟨_, h5, h6⟩ := hW; go_simp⟩) hHeld ?_
      simp only [Act.put, List.getElem_toArray, List.getElem_cons_zero, List.getElem_cons_succ, List.setIfInBounds_toArray, List.set_cons_zero, List.set_cons_succ]
      refine wpAnyH_take (i := 12) (v := .slice pm ym.length cm) rfl (by kernel_rfl) (by kernel_rfl) (by kernel_rfl) (fun _ _ _ h => h) (.inl ⟨by rfl, fun W hW => by obtain ⟨_, h5, h6⟩ := hW; go_simp⟩) hHeld ?_
      simp only [Act.put, List.getElem_toArray, List.getElem_cons_zero, List.getElem_cons_succ, List.setIfInBounds_toArray, List.set_cons_zero, List.set_cons_succ]
      rw [hw4] at hHeld ⊢
      clear hw4
      refine wpAnyH_ready (rs := [13]) (by kernel_rfl) (by simp) ?_
      refine AllReadyH.cons rfl (fun K' hK => ?_) AllReadyH.nil
      rw [if_pos (by rfl)]
      go_simp
      go_at_call 27
      refine C18.out.mono ?_
      rintro e w5 ⟨p5, c5, rfl, hl5, hb5⟩
      obtain ⟨cl, hcl⟩ : ∃ cl, mgC 4 x.m i lb (.slice p5 ym.length c5) = cl := ⟨_, rfl⟩
      have hlen : cl.length = 47 := by rw [← hcl]; rfl
      have hone := mgC_one 4 x.m i lb p5 ym.length c5
      rw [hcl] at hone
      have hbd : (Instr.build 62 #[(0, .int .u8 4), (2, .agg #[.int .u64 (x.m.qb : Int), .int .u64 (x.m.qn : Int), .int .i64 x.m.at_, .int .i64 x.m.fr, .int .i64 x.m.tq]), (7, .int .u64 (i : Int)), (8, .bool lb), (9, .slice p5 ym.length c5)]).run Try.prog w5 = .ok (.agg cl.toArray) w5 := by rw [← hcl]; exact run_build w5 62 _ _ (batch_built x.m i lb (.slice p5 ym.length c5) p5 ym.length c5)
      have hB5 : Below W0.heap.size W0 w5 := HB4.out.trans (hb5.mono HB4.out.size)
      obtain ⟨j0, hj0, hj1, hj2, hj3⟩ := info65
      have hlt : ((sendP x).take k).length ≤ 4 := by rw [List.length_take]; have := HK4.out; omega
      have hs0 := HS0.out
      have hB0s := hB5.size
      have hJ5 := HJ4.out.keep mMg hb5
      obtain ⟨v', X2, e2, hJ2, hb2, hs2, ho2⟩ := OwnR.push mMg Try.underlying35 hj0 hj1 hj2 hj3 (by kernel_rfl) (by decide) hJ5 (by omega) (cs := cl) (x := (⟨x.m, i, lb, ym⟩ : Mg)) (K2 := From w4.heap.size w5) hlen (fun c hc => by have := List.all_eq_true.1 (by simpa using hone) c hc; exact this)
        (fun b hb => ⟨by have := hb.1; have := HB4.out.size; omega, hb.2, fun e => by have := (HJ4.out.block b e).2; have := hb.1; omega⟩) ⟨_, hcl.symm, ⟨HOK.out, by show i < _; have := HI9.out; omega⟩, hl5⟩ (by omega) (by unfold maxLen; omega)
      have HJ2 : Hid (OwnR rMg 47 62 W0.heap.size X2 v' ((sendP x).take (k + 1))) := by rw [HTK.out]; exact hJ2
      have HB2 : Hid (Below W0.heap.size W0 X2) := hb2 _ _ hB5 (Nat.le_refl _)
      have hSA : ∀ V : World, V.heap[w.heap.size]? = w5.heap[w.heap.size]? → V.heap[bb]? = w5.heap[bb]? → (V.rangeAt w.heap.size 0 [.int .u64 (x.m.qb : Int), .int .u64 (x.m.qn : Int), .int .i64 x.m.at_, .int .i64 x.m.fr, .int .i64 x.m.tq] ∧ V.cell? ⟨w.heap.size, 5, none⟩ = some (.slice (some ⟨bb, o, none⟩) x.b.length c) ∧ V.cell? ⟨bb, o + i, none⟩ = some (.slice pm ym.length cm)) := fun V h1 h2 => by
        obtain ⟨t1, t2, t3⟩ := HSall.out w5 hb5
        exact ⟨fun j u hu => (World.cell?_of_block (a := ⟨w.heap.size, 0 + j, none⟩) h1).trans (t1 j u hu), (World.cell?_of_block (a := ⟨w.heap.size, 5, none⟩) h1).trans t2, (World.cell?_of_block (a := ⟨bb, o + i, none⟩) h2).trans t3⟩
      have hbb4 := HBL.out
      have s5 := hb5.size
      have hS5 := HSall.out w5 hb5
      have hS6 := hSA (w5.alloc (.cells cl.toArray 62)) (hao _ _ _ (by omega)) (hao _ _ _ (by omega))
      have hS7 := hSA X2 (ho2 _ (by omega) (fun e => by have := (hJ5.block _ e).1; omega)) (ho2 _ (by omega) (fun e => by have := (hJ5.block _ e).1; omega))
      have hX65 : cl.toArray.size = 47 := by simpa using hlen
      clear hJ2 hb2 hs2 ho2 hJ5 hl5 hb5 hB5 hSA hlt hone hcl hbb4 s5 hB0s
      refine hK.out _ _ hS5 (fun hHeld => ?_)
      clear hK K'
      refine wpAnyH_ready (rs := [14]) (by kernel_rfl) (by simp) ?_
      refine AllReadyH.cons rfl (fun K' hK => ?_) AllReadyH.nil
      rw [if_pos (by rfl)]
      refine wp_build5 62 0 2 7 8 9 _ _ _ _ _ rfl (.int .u8 4) (.agg #[.int .u64 (x.m.qb : Int), .int .u64 (x.m.qn : Int), .int .i64 x.m.at_, .int .i64 x.m.fr, .int .i64 x.m.tq]) (.int .u64 (i : Int)) (.bool lb) (.slice p5 ym.length c5) rfl rfl rfl rfl rfl _ hbd ?_
      simp only [Act.put, List.getElem_toArray, List.getElem_cons_zero, List.getElem_cons_succ, List.setIfInBounds_toArray, List.set_cons_zero, List.set_cons_succ]
      refine hK.out _ _ hHeld (fun hHeld => ?_)
      clear hK K'
      refine wpAnyH_ready (rs := [15]) (by kernel_rfl) (by simp) ?_
      refine AllReadyH.cons rfl (fun K' hK => ?_) AllReadyH.nil
      rw [if_pos (by rfl)]
      refine wp_buildSlice 35 62 1 #[(0, .tmp 42)] rfl cl.toArray j0 (.agg zM) Try.underlying35 hj0 hj1 (by rw [hj2]; decide) (by rw [hj2]; decide) (by simp only [List.map_toArray, List.map_cons, List.map_nil]; exact msg_fill cl.toArray hX65 j0 hj2) ?_
      simp only [Act.put, List.getElem_toArray, List.getElem_cons_zero, List.getElem_cons_succ, List.setIfInBounds_toArray, List.set_cons_zero, List.set_cons_succ]
      refine hK.out _ _ hS6 (fun hHeld => ?_)
      clear hK K'
      refine wpAnyH_ready (rs := [16]) (by kernel_rfl) (by simp) ?_
      refine AllReadyH.cons rfl (fun K' hK => ?_) AllReadyH.nil
      rw [if_pos (by rfl)]
      refine wp_append_run (.tmp 28) (.tmp 43) 35 35 rfl u (.slice (some ⟨w5.heap.size, 0, none⟩) 1 1) rfl rfl _ _ e2 ?_
      simp only [Act.put, List.getElem_toArray, List.getElem_cons_zero, List.getElem_cons_succ, List.setIfInBounds_toArray, List.set_cons_zero, List.set_cons_succ]
      refine hK.out _ _ hS7 (fun hHeld => ?_)
      clear hK K'
      refine wpAnyH_ready (rs := [17]) (by kernel_rfl) (by simp) ?_
      refine AllReadyH.cons rfl (fun K' hK => ?_) AllReadyH.nil
      rw [if_pos (by rfl)]
      go_simp
      refine hK.out _ _ hS7 (fun hHeld => ?_)
      clear hK K'
      refine wpAnyH_done (by kernel_rfl) ?_ _
      clear hHeld hS5 hS6 hS7 hbd e2 hj0 hj1 hj2 hj3 hlen hX65
      go_wp2_with fail
      go_roundg g'
      case measure => omega
      case rel => exact ⟨_, i + 1, k + 1, rfl, by go_num, by omega, by omega, by omega, by show _ = _; have := HIK.out; omega, HJ2, HB2⟩
    · have z1 : ¬ (i : Int) < (x.a : Int) + (N : Int) := by omega
      have hkN : k = N := by have := HIK.out; omega
      have HF : Hid (OwnR rMg 47 62 w.heap.size wr u (sendP x) ∧ Below w.heap.size w wr) := ⟨by
        have := HJ.out.less (C := w.heap.size) (Nat.le_of_lt HS0.out)
        rwa [List.take_of_length_le (by unfold sendP; rw [List.length_map, List.length_range, HN.out]; omega)] at this, v4⟩
      clear v1 v4 v5 v6 v7 HJ HB HIK hkN
      go_wp2_with fail
      go_ret2
      exact ⟨_, rfl, HF.out⟩
end Go.Proofs.Ytcmiphgeakdonaa
