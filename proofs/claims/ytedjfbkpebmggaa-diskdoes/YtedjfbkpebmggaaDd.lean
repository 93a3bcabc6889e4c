/- Files that are left out: what DeleteFunc and without answer. -/
import Derived.Test.YtedjfbkpebmggaaDc
namespace Go.Proofs.Ytedjfbkpebmggaa
open Go.Shelf Go.RowKit Go.Lib Go.Sort
set_option linter.unusedVariables false
set_option linter.unusedSimpArgs false
attribute [local go_sem ↓] Go.wp_at_zero Go.wp_at_succ
theorem below_setRow {B : Nat} {w0 W : World} {g : Nat} {cs : Array Value} (h : Below B w0 W) (hB : B ≤ g) : Below B w0 (W.setRow g cs) :=
  ⟨h.os, h.tape, h.output, by simp [World.setRow]; exact h.size, fun k hk => by rw [setRow_other _ _ _ _ (by omega)]; exact h.block k hk⟩
/-- Files that are being thinned out. -/
def DelJ (w0 : World) (g cap : Nat) (fs ls : List DF) (j : Nat) (W : World) : Prop :=
  Below w0.heap.size w0 W ∧ ∃ cur : Array Value, W.heap[g]? = some (.cells cur 41 (0, 0)) ∧ cur.size = cap * 3 ∧ (∀ k, k < ls.length * 3 → cur[k]? = (flat ls)[k]?) ∧ ∀ k, j * 3 ≤ k → k < fs.length * 3 → cur[k]? = (flat fs)[k]?
theorem DelJ.next {w0 W : World} {g cap : Nat} {fs ls : List DF} {j : Nat} (h : DelJ w0 g cap fs ls j W) : DelJ w0 g cap fs ls (j + 1) W := by
  obtain ⟨hb, cur, hg, hc, h1, h2⟩ := h
  exact ⟨hb, cur, hg, hc, h1, fun k hk hk2 => h2 k (by omega) hk2⟩
theorem DelJ.below {w0 W W' : World} {g cap : Nat} {fs ls : List DF} {j : Nat} (h : DelJ w0 g cap fs ls j W) (hb : Below W.heap.size W W') : DelJ w0 g cap fs ls j W' := by
  obtain ⟨hb0, cur, hg, r⟩ := h
  exact ⟨hb0.trans (hb.mono hb0.size), cur, by rw [hb.block _ (Array.getElem?_eq_some_iff.1 hg).1]; exact hg, r⟩
theorem cell_of_row {W : World} {g k : Nat} {cur : Array Value} {t : TypeId} (hg : W.heap[g]? = some (.cells cur t (0, 0))) {v : Value} (h : cur[k]? = some v) : W.cell? ⟨g, k, none⟩ = some v := by simp [World.cell?, hg, h]
theorem DelJ.cells {w0 W : World} {g cap : Nat} {fs ls : List DF} {j : Nat} (h : DelJ w0 g cap fs ls j W) (hj : j < fs.length) :
    W.cell? ⟨g, j * 3, none⟩ = some (.string fs[j].n) ∧ W.cell? ⟨g, j * 3 + 1, none⟩ = some (.string fs[j].d) ∧ W.cell? ⟨g, j * 3 + 2, none⟩ = some (.int .i64 fs[j].y) := by
  obtain ⟨hb0, cur, hg, hc, h1, h2⟩ := h
  obtain ⟨f0, f1, f2⟩ := flat_at fs j hj
  exact ⟨cell_of_row hg (by rw [h2 _ (by omega) (by omega)]; exact f0), cell_of_row hg (by rw [h2 _ (by omega) (by omega)]; exact f1), cell_of_row hg (by rw [h2 _ (by omega) (by omega)]; exact f2)⟩
/-- One more is kept. -/
theorem DelJ.put {w0 W : World} {g cap : Nat} {fs ls : List DF} {i j : Nat} (h : DelJ w0 g cap fs ls j W) (hg0 : w0.heap.size ≤ g) (hi : ls.length = i) (hl : i < j) (hj : j < fs.length) (hcap : fs.length ≤ cap) (n d : ByteArray) (y : Int) :
    ∃ Wa Wb Wc, W.setCell ⟨g, i * 3, none⟩ (.string n) = Wa ∧ Wa.setCell ⟨g, i * 3 + 1, none⟩ (.string d) = Wb ∧ Wb.setCell ⟨g, i * 3 + 2, none⟩ (.int .i64 y) = Wc ∧
      (∃ o, W.cell? ⟨g, i * 3, none⟩ = some o) ∧ W.frozen? ⟨g, i * 3, none⟩ = false ∧ (∃ o, Wa.cell? ⟨g, i * 3 + 1, none⟩ = some o) ∧ Wa.frozen? ⟨g, i * 3 + 1, none⟩ = false ∧
      (∃ o, Wb.cell? ⟨g, i * 3 + 2, none⟩ = some o) ∧ Wb.frozen? ⟨g, i * 3 + 2, none⟩ = false ∧ DelJ w0 g cap fs (ls ++ [⟨n, d, y⟩]) (j + 1) Wc := by
  obtain ⟨hb, cur, hg, hc, h1, h2⟩ := h
  obtain ⟨Wa, Wb, Wc, e1, e2, e3, x1, x2, x3, x4, x5, x6, hbl, _, cur', hg', hs', hk', k0, k1, k2⟩ := set_three (k := i * 3) hg (by omega) (.string n) (.string d) (.int .i64 y)
  refine ⟨Wa, Wb, Wc, e1, e2, e3, x1, x2, x3, x4, x5, x6, hbl _ _ hb hg0, cur', hg', by rw [hs']; exact hc, fun k hk => ?_, fun k hk hk2 => ?_⟩
  · rw [flat_append]
    have hfl := flat_length ls
    by_cases e : k < i * 3
    · rw [List.getElem?_append_left (by omega), hk' k (.inl e)]; exact h1 k (by omega)
    · rw [List.getElem?_append_right (by omega), hfl, hi]
      have hk3 : k < i * 3 + 3 := by simp at hk; omega
      obtain ⟨r, rfl⟩ : ∃ r, k = i * 3 + r := ⟨k - i * 3, by omega⟩
      rw [Nat.add_sub_cancel_left]
      match r, (show r < 3 by omega) with
      | 0, _ => rw [Nat.add_zero, k0]; rfl
      | 1, _ => rw [k1]; rfl
      | 2, _ => rw [k2]; rfl
  · rw [hk' k (.inr (by omega))]; exact h2 k (by omega) hk2
set_option maxRecDepth 100000 in
set_option maxHeartbeats 2000000 in
theorem delete_any (ba : Nat) (nm : ByteArray) (v : Value) (fs : List DF) (w0 w : World) (hx : BoxN w0 ba nm) (h : OwnF w0.heap.size w v fs) (hbw : Below w0.heap.size w0 w) (hm : fs.length * 40 ≤ 140737488355328) (hs : SmallF fs) :
    Calls Try.prog 48 #[v, .func (.func 49) #[] #[.pointer (some ⟨ba, 0, none⟩)]] w fun e w' => ∃ u, e = .returned u ∧ OwnF w0.heap.size w' u (wo nm fs) ∧ Below w0.heap.size w0 w' := by
  have HL : FsL w v fs := h.files hm hs
  have C1 : Hid (Calls Try.prog 51 #[v, .func (.func 49) #[] #[.pointer (some ⟨ba, 0, none⟩)]] w fun e w' => Below w.heap.size w w' ∧ ((e = .returned (.int .i64 (-1)) ∧ wo nm fs = fs) ∨ ∃ k : Nat, k < fs.length ∧ e = .returned (.int .i64 k) ∧ wo nm (fs.take (k + 1)) = fs.take k)) := namedIdx_any ba nm v fs w (hx.below hbw) HL
  have HX : Hid (BoxN w0 ba nm) := hx
  obtain ⟨hl, ⟨rfl, h0⟩ | ⟨g, cap, cur, rfl, hbg, hg, hnc, hcm, hcs, htake⟩⟩ := h
  · have hf : fs = [] := List.eq_nil_of_length_eq_zero h0
    subst hf
    clear HL hx h0
    go_enter Try.func48, Try.ntmps48
    go_wp2_with fail
    refine C1.out.mono ?_
    rintro e w1 ⟨hb1, ⟨rfl, hl1⟩ | ⟨k, hk, _⟩⟩
    · have HB : Hid (Below w0.heap.size w0 w1) := hbw.trans (hb1.mono hbw.size)
      clear hl1 C1 hb1
      go_wp2_with fail
      go_ret
      exact ⟨_, rfl, World.ownsRow_nil _ _ _ _, HB.out⟩
    · simp at hk
  · have hcur : ∀ k, k < fs.length * 3 → cur[k]? = (flat fs)[k]? := fun k hk => by
      rw [← htake, List.getElem?_take_of_lt hk]; simp
    have HJ0 : Hid (∀ k, k < fs.length → DelJ w0 g cap fs (fs.take k) (k + 1) w) := fun k hk => ⟨hbw, cur, hg, hcs, fun m hm => by
      have hk2 : (fs.take k).length = k := by rw [List.length_take]; omega
      rw [hk2] at hm
      rw [hcur m (by omega)]
      conv => lhs; rw [← List.take_append_drop k fs, flat_append]
      rw [List.getElem?_append_left (by rw [flat_length, hk2]; omega)], fun m _ hm => hcur m hm⟩
    have HOw : Hid (OwnF w0.heap.size w (.slice (some ⟨g, 0, none⟩) fs.length cap) fs) := ⟨hl, .inr ⟨g, cap, cur, rfl, hbg, hg, hnc, hcm, hcs, htake⟩⟩
    have hglt : g < w.heap.size := (Array.getElem?_eq_some_iff.1 hg).1
    have HM : Hid (cap ≤ maxLen) := hcm
    have hcap : cap ≤ 9223372036854775807 := by unfold maxLen at hcm; omega
    clear hcur htake hl hg hcs HL hx hs hcm
    go_enter Try.func48, Try.ntmps48
    go_wp2_with fail
    refine C1.out.mono ?_
    rintro e w1 ⟨hb1, ⟨rfl, hl1⟩ | ⟨k, hk, rfl, hl1⟩⟩
    · have HF : Hid (OwnF w0.heap.size w1 (.slice (some ⟨g, 0, none⟩) fs.length cap) (wo nm fs)) := by
        rw [hl1]
        obtain ⟨hl, ⟨e, _⟩ | ⟨g', cap', cur, e, r1, hg, r⟩⟩ := HOw.out
        · cases e
        · simp only [Value.slice.injEq, Option.some.injEq, Addr.mk.injEq, and_true, true_and] at e
          obtain ⟨rfl, rfl⟩ := e
          exact ⟨hl, .inr ⟨g, cap, cur, rfl, r1, by rw [hb1.block _ hglt]; exact hg, r⟩⟩
      have HB : Hid (Below w0.heap.size w0 w1) := hbw.trans (hb1.mono hbw.size)
      clear hl1 C1 hb1 HJ0 HOw
      go_wp2_with fail
      go_ret
      exact ⟨_, rfl, HF.out, HB.out⟩
    · have HJ : Hid (DelJ w0 g cap fs (wo nm (fs.take (k + 1))) (k + 1) w1) := by rw [hl1]; exact (HJ0.out k hk).below hb1
      have HLk : Hid ((wo nm (fs.take (k + 1))).length = k) := by show _ = _; rw [hl1, List.length_take]; omega
      have hk1 : ((k : Int) == -1) = false := beq_eq_false_iff_ne.2 (by omega)
      clear hl1 C1 HJ0 HOw hb1
      go_wp2_with fail
      go_loopg [5, 6] fs.length (fun gf s5 s6 wx => ∃ i j : Nat, s5 = .int .i64 i ∧ s6 = .int .i64 j ∧ i < j ∧ j ≤ fs.length ∧ fs.length ≤ j + gf ∧ Hid ((wo nm (fs.take j)).length = i) ∧ Hid (DelJ w0 g cap fs (wo nm (fs.take j)) j wx))
      case atStart => exact ⟨k, k + 1, rfl, by go_num, by omega, by omega, by omega, HLk, HJ⟩
      case round =>
        clear HJ HLk
        obtain ⟨i, j, rfl, rfl, hij, hj1, hgf, HLi, HJ⟩ := hrel
        have z0 : (0 : Int) ≤ (j : Int) := by omega
        have z2 : (0 : Int) ≤ (i : Int) := by omega
        have z3 : (i : Int) < (fs.length : Int) := by omega
        by_cases hj : j < fs.length
        · obtain ⟨g', rfl⟩ : ∃ g', gk = g' + 1 := ⟨gk - 1, by omega⟩
          obtain ⟨c0, c1, c2⟩ := HJ.out.cells hj
          have hst := wo_step nm fs j hj
          obtain ⟨⟨n, d, y⟩, hf⟩ : ∃ f, fs[j] = f := ⟨_, rfl⟩
          rw [hf] at c0 c1 c2 hst
          simp only at c0 c1 c2 hst
          have z1 : (j : Int) < (fs.length : Int) := by omega
          obtain ⟨W1, hW1⟩ : ∃ W1, wr.alloc (.cells #[.string n, .string d, .int .i64 y] 41) = W1 := ⟨_, rfl⟩
          have hb1 : Below wr.heap.size wr W1 := by rw [← hW1]; exact one_below _ _
          have hbx1 : W1.heap[wr.heap.size]? = some (.cells #[.string n, .string d, .int .i64 y] 41 (0, 0)) := by rw [← hW1]; exact heap_alloc_new wr _
          have HJ1 : Hid (DelJ w0 g cap fs (wo nm (fs.take j)) j W1) := HJ.out.below hb1
          have hlt1 : wr.heap.size < W1.heap.size := (Array.getElem?_eq_some_iff.1 hbx1).1
          have C2 : Hid (Calls Try.prog 49 #[.agg #[.string n, .string d, .int .i64 y], .pointer (some ⟨ba, 0, none⟩)] W1 fun e w' => e = .returned (.bool (eqB n nm)) ∧ Below W1.heap.size W1 w') := named_any ba nm n d y W1 (HX.out.below HJ1.out.1)
          have b0 : W1.cell? ⟨wr.heap.size, 0, none⟩ = some (.string n) := by simp [World.cell?, hbx1]
          have b1 : W1.cell? ⟨wr.heap.size, 1, none⟩ = some (.string d) := by simp [World.cell?, hbx1]
          have b2 : W1.cell? ⟨wr.heap.size, 2, none⟩ = some (.int .i64 y) := by simp [World.cell?, hbx1]
          clear hf hb1 HJ
          cases ha : eqB n nm
          · rw [ha] at hst C2
            rw [if_neg (by simp)] at hst
            have HL2 : Hid ((wo nm (fs.take (j + 1))).length = i + 1) := by show _ = _; rw [hst, List.length_append, HLi.out]; rfl
            have HST : Hid (wo nm (fs.take (j + 1)) = wo nm (fs.take j) ++ [⟨n, d, y⟩]) := hst
            clear hst ha
            go_wp2_with fail
            refine C2.out.mono ?_
            rintro e w2 ⟨rfl, hb2⟩
            have d0 : w2.cell? ⟨wr.heap.size, 0, none⟩ = some (.string n) := by rw [hb2.cell (p := ⟨wr.heap.size, _, none⟩) hlt1]; exact b0
            have d1 : w2.cell? ⟨wr.heap.size, 1, none⟩ = some (.string d) := by rw [hb2.cell (p := ⟨wr.heap.size, _, none⟩) hlt1]; exact b1
            have d2 : w2.cell? ⟨wr.heap.size, 2, none⟩ = some (.int .i64 y) := by rw [hb2.cell (p := ⟨wr.heap.size, _, none⟩) hlt1]; exact b2
            obtain ⟨Wa, Wb, Wc, hWa, hWb, hWc, ca, fa, cb, fb, cc, fc, hJc⟩ := (HJ1.out.below hb2).put hbg HLi.out hij hj hnc n d y
            have HJ2 : Hid (DelJ w0 g cap fs (wo nm (fs.take (j + 1))) (j + 1) Wc) := by rw [HST.out]; exact hJc
            obtain ⟨oa, ca⟩ := ca
            obtain ⟨ob, cb⟩ := cb
            obtain ⟨oc, cc⟩ := cc
            clear C2 hb2 b0 b1 b2 hJc HJ1 hbx1 hW1 HLi c0 c1 c2 HST hlt1
            go_wp2_with fail
            go_roundg g'
            case measure => omega
            case rel => exact ⟨i + 1, j + 1, by go_num, by go_num, by omega, by omega, by omega, HL2, HJ2⟩
          · rw [ha] at hst C2
            rw [if_pos rfl] at hst
            have HL2 : Hid ((wo nm (fs.take (j + 1))).length = i) := by show _ = _; rw [hst]; exact HLi.out
            have HST : Hid (wo nm (fs.take (j + 1)) = wo nm (fs.take j)) := hst
            clear hst ha
            go_wp2_with fail
            refine C2.out.mono ?_
            rintro e w2 ⟨rfl, hb2⟩
            have HJ2 : Hid (DelJ w0 g cap fs (wo nm (fs.take (j + 1))) (j + 1) w2) := by rw [HST.out]; exact (HJ1.out.below hb2).next
            clear C2 hb2 b0 b1 b2 HJ1 hbx1 hW1 HLi c0 c1 c2 HST hlt1
            go_wp2_with fail
            go_roundg g'
            case measure => omega
            case rel => exact ⟨i, j + 1, rfl, by go_num, by omega, by omega, by omega, HL2, HJ2⟩
        · have hend : j = fs.length := by omega
          have z1 : ¬ (j : Int) < (fs.length : Int) := by omega
          obtain ⟨hBj, cur', hg', hc', h1', _⟩ := HJ.out
          obtain ⟨cz, hcl, hcz, hck⟩ : ∃ cz : Array Value, (∀ ty, (Builtin.clear_ #[22] ty #[.slice (some ⟨g, i * 3, none⟩) (fs.length - i) (cap - i)]).run Try.prog wr = .ok (.tuple #[]) (wr.setRow g cz)) ∧ cz.size = cur'.size ∧ ∀ k, k < i * 3 → cz[k]? = cur'[k]? := by
            obtain ⟨cz, h1, h2, h3⟩ := run_clear3 wr g (i * 3) (fs.length - i) (cap - i) 0 cur' (by omega) hg' (by rw [hc']; omega)
            exact ⟨cz, fun _ => h1, h2, h3⟩
          have hli : (wo nm fs).length = i := by have := HLi.out; rwa [hend, List.take_length] at this
          have HF : Hid (OwnF w0.heap.size (wr.setRow g cz) (.slice (some ⟨g, 0, none⟩) i cap) (wo nm fs)) := by
            refine ⟨flat_length _, .inr ⟨g, cap, cz, by rw [hli], hbg, setRow_heap _ _ cur' _ 41 (0, 0) hg', by rw [hli]; omega, HM.out, by rw [hcz, hc'], ?_⟩⟩
            apply List.ext_getElem?
            intro m
            by_cases hm : m < i * 3
            · rw [List.getElem?_take_of_lt (by rw [hli]; exact hm)]
              have e1 := h1' m (by rw [hend, List.take_length, hli]; exact hm)
              have e2 := hck m hm
              rw [hend, List.take_length] at e1
              rw [Array.getElem?_toList, e2, e1]
            · rw [List.getElem?_eq_none (by simp; omega), List.getElem?_eq_none (by rw [flat_length]; omega)]
          have HB5 : Hid (Below w0.heap.size w0 (wr.setRow g cz)) := below_setRow hBj hbg
          clear HJ hBj hg' hc' h1' hend hck hcz hli HLi
          go_wp2
          go_ret
          exact ⟨_, rfl, HF.out, HB5.out⟩
set_option maxRecDepth 100000 in
set_option maxHeartbeats 2000000 in
theorem without_any (v : Value) (nm : ByteArray) (fs : List DF) (w : World) (h : FsL w v fs) :
    Calls Try.prog 44 #[v, .string nm] w fun e w' => ∃ u, e = .returned u ∧ OwnF (w.heap.size + 1) w' u (wo nm fs) ∧ Below w.heap.size w w' := by
  obtain ⟨W0, hW0⟩ : ∃ W0, w.alloc (.cells #[.string nm] 9) = W0 := ⟨_, rfl⟩
  have hb0 : Below w.heap.size w W0 := by rw [← hW0]; exact one_below _ _
  have hs0 : W0.heap.size = w.heap.size + 1 := by rw [← hW0]; simp
  have C1 : Hid (Calls Try.prog 30 #[v] W0 fun e w' => ∃ u, e = .returned u ∧ OwnF W0.heap.size w' u fs ∧ Below W0.heap.size W0 w') := cloneF_any v fs W0 (h.below hb0)
  have C2 : Hid (∀ u W, OwnF W0.heap.size W u fs → Below W0.heap.size W0 W → Calls Try.prog 48 #[u, .func (.func 49) #[] #[.pointer (some ⟨w.heap.size, 0, none⟩)]] W fun e w' => ∃ u, e = .returned u ∧ OwnF W0.heap.size w' u (wo nm fs) ∧ Below W0.heap.size W0 w') :=
    fun u W hu hb => delete_any w.heap.size nm u fs W0 W ⟨by omega, by rw [← hW0]; exact cell_box _ _ _ _ _ rfl⟩ hu hb h.many h.small
  have HS : Hid (W0.heap.size = w.heap.size + 1) := hs0
  have HB0 : Hid (Below w.heap.size w W0) := hb0
  obtain ⟨p, c, rfl, _⟩ := h
  clear hs0 hb0
  go_enter Try.func44, Try.ntmps44
  go_wp2_with fail
  refine C1.out.mono ?_
  rintro e w1 ⟨u1, rfl, hu1, hb1⟩
  go_wp2_with fail
  refine (C2.out _ _ hu1 hb1).mono ?_
  rintro e w2 ⟨u2, rfl, hu2, hb2⟩
  have HF : Hid (OwnF (w.heap.size + 1) w2 u2 (wo nm fs) ∧ Below w.heap.size w w2) := ⟨by rw [← HS.out]; exact hu2, HB0.out.trans (hb2.mono HB0.out.size)⟩
  clear hu1 hb1 hu2 hb2 C1 C2 HS HB0
  go_wp2_with fail
  go_ret
  exact ⟨_, rfl, HF.out⟩
end Go.Proofs.Ytedjfbkpebmggaa
