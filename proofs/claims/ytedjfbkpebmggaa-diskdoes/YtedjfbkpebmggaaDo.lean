/- A change of a right disk: what do answers. -/
import Derived.Test.YtedjfbkpebmggaaDn
namespace Go.Proofs.Ytedjfbkpebmggaa
open Go.Shelf Go.RowKit Go.Lib Go.Sort
set_option linter.unusedVariables false
set_option linter.unusedSimpArgs false
attribute [local go_sem ↓] Go.wp_at_zero Go.wp_at_succ
theorem setT_row {t : TypeId} {W : World} {g k : Nat} {cur : Array Value} (hg : W.heap[g]? = some (.cells cur t (0, 0))) (hk : k < cur.size) (v : Value) :
    (∃ o, W.cell? ⟨g, k, none⟩ = some o) ∧ W.frozen? ⟨g, k, none⟩ = false ∧ (W.setCell ⟨g, k, none⟩ v).heap[g]? = some (.cells (cur.setIfInBounds k v) t (0, 0)) ∧ ∀ B w0, Below B w0 W → B ≤ g → Below B w0 (W.setCell ⟨g, k, none⟩ v) := by
  refine ⟨⟨cur[k], by simp [World.cell?, hg, hk]⟩, frozen_zero hg k, heap_setCell_same W g k cur t v hg, fun B w0 hb hB => ⟨hb.os, hb.tape, hb.output, by simp [World.setCell]; exact hb.size, fun j hj => ?_⟩⟩
  rw [heap_setCell_other _ ⟨g, k, none⟩ j _ (by show j ≠ g; omega)]
  exact hb.block j hj
/-- A disk that is stored into a block of its own. -/
theorem set_disk {W : World} {g : Nat} {x y z : Value} (hg : W.heap[g]? = some (.cells #[x, y, z] 24 (0, 0))) (a b c : Value) :
    ∃ Wa Wb Wc, W.setCell ⟨g, 0, none⟩ a = Wa ∧ Wa.setCell ⟨g, 1, none⟩ b = Wb ∧ Wb.setCell ⟨g, 2, none⟩ c = Wc ∧
      (∃ o, W.cell? ⟨g, 0, none⟩ = some o) ∧ W.frozen? ⟨g, 0, none⟩ = false ∧ (∃ o, Wa.cell? ⟨g, 1, none⟩ = some o) ∧ Wa.frozen? ⟨g, 1, none⟩ = false ∧
      (∃ o, Wb.cell? ⟨g, 2, none⟩ = some o) ∧ Wb.frozen? ⟨g, 2, none⟩ = false ∧ (∀ B w0, Below B w0 W → B ≤ g → Below B w0 Wc) ∧
      Wc.heap[g]? = some (.cells #[a, b, c] 24 (0, 0)) ∧ (Wc.cell? ⟨g, 0, none⟩ = some a ∧ Wc.cell? ⟨g, 1, none⟩ = some b ∧ Wc.cell? ⟨g, 2, none⟩ = some c) := by
  obtain ⟨a1, a2, a3, a4⟩ := setT_row hg (k := 0) (by simp) a
  obtain ⟨b1, b2, b3, b4⟩ := setT_row a3 (k := 1) (by simp) b
  obtain ⟨c1, c2, c3, c4⟩ := setT_row b3 (k := 2) (by simp) c
  have e : ((((#[x, y, z] : Array Value).setIfInBounds 0 a).setIfInBounds 1 b).setIfInBounds 2 c) = #[a, b, c] := rfl
  rw [e] at c3
  exact ⟨_, _, _, rfl, rfl, rfl, a1, a2, b1, b2, c1, c2, fun B w0 hb hB => c4 _ _ (b4 _ _ (a4 _ _ hb hB) hB) hB, c3, cell_of_row c3 rfl, cell_of_row c3 rfl, cell_of_row c3 rfl⟩
theorem set3_other {W Wa Wb Wc : World} {g i j k : Nat} {a b c : Value} (h1 : W.setCell ⟨g, i, none⟩ a = Wa) (h2 : Wa.setCell ⟨g, j, none⟩ b = Wb) (h3 : Wb.setCell ⟨g, k, none⟩ c = Wc) : (∀ m, m ≠ g → Wc.heap[m]? = W.heap[m]?) ∧ W.heap.size ≤ Wc.heap.size := by
  subst h1 h2 h3
  refine ⟨fun m hm => ?_, by simp [World.setCell]⟩
  rw [heap_setCell_other _ ⟨g, k, none⟩ m _ hm, heap_setCell_other _ ⟨g, j, none⟩ m _ hm, heap_setCell_other _ ⟨g, i, none⟩ m _ hm]
/-- Files lie in no disk's own block. -/
theorem FsL.but {w W : World} {v : Value} {fs : List DF} (h : FsL w v fs) {g : Nat} {p : Option Addr} {n c : Nat} {b : Bool} {i : Int} {t : TypeId} (hg : w.heap[g]? = some (.cells #[.slice p n c, .bool b, .int .i64 i] t (0, 0))) (hk : ∀ m, m ≠ g → W.heap[m]? = w.heap[m]?) (hs : w.heap.size ≤ W.heap.size) : FsL W v fs := by
  obtain ⟨pp, cc, rfl, hl, hsm, hp⟩ := h
  refine ⟨pp, cc, rfl, hl, hsm, fun h0 => ?_⟩
  obtain ⟨b', o, rfl, hlt, hc⟩ := hp h0
  have hne : b' ≠ g := by
    rintro rfl
    have := (hc 0 h0).1
    simp only [World.cell?, hg, Nat.zero_mul, Nat.add_zero] at this
    match o with
    | 0 => simp at this
    | 1 => simp at this
    | 2 => simp at this
    | o + 3 => simp at this
  refine ⟨b', o, rfl, Nat.lt_of_lt_of_le hlt hs, fun j hj => ?_⟩
  have e : ∀ q, W.cell? ⟨b', q, none⟩ = w.cell? ⟨b', q, none⟩ := fun q => World.cell?_of_block (hk b' hne)
  rw [e, e, e]; exact hc j hj
/-- The boxes of do. -/
theorem dobox (w : World) (v : Value) (dn : Bool) (fu kk : Int) (nm tt dt : ByteArray) : ∃ W0, ((w.alloc (.cells #[v, .bool dn, .int .i64 fu] 24)).alloc (.cells #[.int .u8 kk, .string nm, .string tt, .string dt] 27)).alloc (.cells #[.slice none 0 0, .bool false, .int .i64 0] 24) = W0 ∧ Below w.heap.size w W0 ∧ W0.heap.size = w.heap.size + 3 ∧
    (∀ W, Below W0.heap.size W0 W → (W.cell? ⟨w.heap.size, 0, none⟩ = some v ∧ W.cell? ⟨w.heap.size, 1, none⟩ = some (.bool dn) ∧ W.cell? ⟨w.heap.size, 2, none⟩ = some (.int .i64 fu)) ∧
      (W.cell? ⟨w.heap.size + 1, 0, none⟩ = some (.int .u8 kk) ∧ W.cell? ⟨w.heap.size + 1, 1, none⟩ = some (.string nm) ∧ W.cell? ⟨w.heap.size + 1, 2, none⟩ = some (.string tt) ∧ W.cell? ⟨w.heap.size + 1, 3, none⟩ = some (.string dt)) ∧ W.heap[w.heap.size + 1 + 1]? = some (.cells #[.slice none 0 0, .bool false, .int .i64 0] 24 (0, 0))) := by
  refine ⟨_, rfl, three_below _ _ _ _, by simp, fun W hb => ?_⟩
  have g0 : W.heap[w.heap.size]? = some (.cells #[v, .bool dn, .int .i64 fu] 24 (0, 0)) := by
    rw [hb.block _ (by simp; omega), heap_alloc_old _ _ (by simp; omega), heap_alloc_old _ _ (by simp)]; exact heap_alloc_new w _
  have g1 : W.heap[w.heap.size + 1]? = some (.cells #[.int .u8 kk, .string nm, .string tt, .string dt] 27 (0, 0)) := by
    rw [hb.block _ (by simp), heap_alloc_old _ _ (by simp)]
    have := heap_alloc_new (w.alloc (.cells #[v, .bool dn, .int .i64 fu] 24)) (.cells #[.int .u8 kk, .string nm, .string tt, .string dt] 27)
    simpa using this
  have g2 : W.heap[w.heap.size + 2]? = some (.cells #[.slice none 0 0, .bool false, .int .i64 0] 24 (0, 0)) := by
    rw [hb.block _ (by simp)]
    have := heap_alloc_new ((w.alloc (.cells #[v, .bool dn, .int .i64 fu] 24)).alloc (.cells #[.int .u8 kk, .string nm, .string tt, .string dt] 27)) (.cells #[.slice none 0 0, .bool false, .int .i64 0] 24)
    simpa using this
  exact ⟨⟨cell_of_row g0 rfl, cell_of_row g0 rfl, cell_of_row g0 rfl⟩, ⟨cell_of_row g1 rfl, cell_of_row g1 rfl, cell_of_row g1 rfl, cell_of_row g1 rfl⟩, g2⟩
set_option maxRecDepth 100000 in
set_option maxHeartbeats 2000000 in
/-- A kind that there is not. -/
theorem do_none (v : Value) (dn : Bool) (fu kk : Int) (nm tt dt : ByteArray) (fs : List DF) (w : World) (h : FsL w v fs) (hk : kk ≠ 1 ∧ kk ≠ 2 ∧ kk ≠ 3 ∧ kk ≠ 4) :
    Calls Try.prog 22 #[.agg #[v, .bool dn, .int .i64 fu], .agg #[.int .u8 kk, .string nm, .string tt, .string dt]] w fun e w' => e = .returned (.tuple #[.agg #[v, .bool dn, .int .i64 fu], .int .i64 5]) ∧ Below w.heap.size w w' := by
  obtain ⟨W0, hW0, hb0, hs0, hx⟩ := dobox w v dn fu kk nm tt dt
  obtain ⟨p, c, rfl, _⟩ := h
  have HX : Hid _ := hx
  have C1 : Hid (Calls Try.prog 33 #[.slice p fs.length c, .agg #[.int .u8 kk, .string nm, .string tt, .string dt]] W0.drew fun e w' => e = .returned (.map (some (w.heap.size + 5))) ∧ w'.heap[w.heap.size + 5]? = some (.map (chMap (.agg #[.slice p fs.length c, .int .u8 kk, .string nm, .string tt, .string dt])) 4) ∧ Below W0.heap.size W0 w') := by
    have := changesOf_any p fs.length c kk nm tt dt W0.drew
    rw [show W0.drew.heap.size = w.heap.size + 3 from hs0] at this
    exact this.mono fun e w' ⟨h1, h2, h3⟩ => ⟨h1, h2, by rw [hs0]; exact (hs0 ▸ (Below.refl W0.heap.size W0).drew).trans h3⟩
  obtain ⟨⟨x0, x1, x2⟩, ⟨y0, y1, y2, y3⟩, _⟩ := hx W0 (Below.refl _ _)
  have HB0 : Hid (Below w.heap.size w W0) := hb0
  have n0 : w.heap.size < W0.heap.size := by omega
  have n1 : w.heap.size + 1 < W0.heap.size := by omega
  have HK : Hid (kk ≠ 1 ∧ kk ≠ 2 ∧ kk ≠ 3 ∧ kk ≠ 4) := hk
  clear hx hs0 hb0 hk
  go_enter Try.func22, Try.ntmps22
  go_wp2_with fail
  have e0 : W0.drew.cell? ⟨w.heap.size, 0, none⟩ = some (.slice p fs.length c) := x0
  have e1 : W0.drew.cell? ⟨w.heap.size + 1, 0, none⟩ = some (.int .u8 kk) := y0
  have e2 : W0.drew.cell? ⟨w.heap.size + 1, 1, none⟩ = some (.string nm) := y1
  have e3 : W0.drew.cell? ⟨w.heap.size + 1, 2, none⟩ = some (.string tt) := y2
  have e4 : W0.drew.cell? ⟨w.heap.size + 1, 3, none⟩ = some (.string dt) := y3
  go_region_held3 (fun w' => w'.cell? ⟨w.heap.size, 0, none⟩ = some (.slice p fs.length c) ∧ w'.cell? ⟨w.heap.size + 1, 0, none⟩ = some (.int .u8 kk) ∧ w'.cell? ⟨w.heap.size + 1, 1, none⟩ = some (.string nm) ∧ w'.cell? ⟨w.heap.size + 1, 2, none⟩ = some (.string tt) ∧ w'.cell? ⟨w.heap.size + 1, 3, none⟩ = some (.string dt))
    (first | (go_split_ands; refine ⟨?_, ?_, ?_, ?_, ?_⟩ <;> (first | (rw [hBa.cell (p := ⟨w.heap.size, _, none⟩) n0]; assumption) | (rw [hBa.cell (p := ⟨w.heap.size + 1, _, none⟩) n1]; assumption))) | go_keep)
    ((first
      | (go_at_call 33; refine C1.out.mono ?_; rintro e wa ⟨rfl, hMa, hBa⟩; obtain ⟨vz, hlk⟩ := (look_of (k := kk) hMa).2.2.2.2 HK.out.1 HK.out.2.1 HK.out.2.2.1 HK.out.2.2.2)))
  have hBa' : Below W0.heap.size W0 wa := hBa
  obtain ⟨⟨a0, a1, a2⟩, _, hg⟩ := HX.out wa hBa'
  obtain ⟨Wa, Wb, Wc, hWa, hWb, hWc, ⟨oa, ca⟩, fa, ⟨ob, cb⟩, fb, ⟨oc, cc⟩, fc, hbl, _, d0, d1, d2⟩ := set_disk hg (.slice p fs.length c) (.bool dn) (.int .i64 fu)
  have HB : Hid (Below w.heap.size w Wc) := hbl _ _ (HB0.out.trans (hBa'.mono HB0.out.size)) (by omega)
  clear hBa hBa' hMa hlk hg hbl C1 e0 e1 e2 e3 e4 x0 x1 x2 y0 y1 y2 y3
  go_wp2_with fail
  exact bodyPost_ret (v := .tuple #[.agg #[.slice p fs.length c, .bool dn, .int .i64 fu], .int .i64 5]) (by simp [results, Try.results22, go_sem, d0, d1, d2]) rfl ⟨rfl, HB.out⟩
set_option maxRecDepth 100000 in
set_option maxHeartbeats 2000000 in
/-- A kind that there is, on a disk that is down. -/
theorem do_down (F : Nat) (v : Value) (fu kk : Int) (nm tt dt : ByteArray) (fs : List DF) (w : World) (h : FsL w v fs)
    (hl : ∀ W r c, W.heap[r]? = some (.map (chMap c) 4) → (Instr.lookup 60 (.map (some r)) (.int .u8 kk) true).run Try.prog W = .ok (.tuple #[.func (.func F) #[c] #[], .bool true]) W) :
    Calls Try.prog 22 #[.agg #[v, .bool true, .int .i64 fu], .agg #[.int .u8 kk, .string nm, .string tt, .string dt]] w fun e w' => e = .returned (.tuple #[.agg #[v, .bool true, .int .i64 fu], .int .i64 12]) ∧ Below w.heap.size w w' := by
  obtain ⟨W0, hW0, hb0, hs0, hx⟩ := dobox w v true fu kk nm tt dt
  obtain ⟨p, c, rfl, _⟩ := h
  have HX : Hid _ := hx
  have HL : Hid _ := hl
  have C1 : Hid (Calls Try.prog 33 #[.slice p fs.length c, .agg #[.int .u8 kk, .string nm, .string tt, .string dt]] W0.drew fun e w' => e = .returned (.map (some (w.heap.size + 5))) ∧ w'.heap[w.heap.size + 5]? = some (.map (chMap (.agg #[.slice p fs.length c, .int .u8 kk, .string nm, .string tt, .string dt])) 4) ∧ Below W0.heap.size W0 w') := by
    have := changesOf_any p fs.length c kk nm tt dt W0.drew
    rw [show W0.drew.heap.size = w.heap.size + 3 from hs0] at this
    exact this.mono fun e w' ⟨h1, h2, h3⟩ => ⟨h1, h2, by rw [hs0]; exact (hs0 ▸ (Below.refl W0.heap.size W0).drew).trans h3⟩
  obtain ⟨⟨x0, x1, x2⟩, ⟨y0, y1, y2, y3⟩, _⟩ := hx W0 (Below.refl _ _)
  have HB0 : Hid (Below w.heap.size w W0) := hb0
  have n0 : w.heap.size < W0.heap.size := by omega
  have n1 : w.heap.size + 1 < W0.heap.size := by omega
  clear hx hs0 hb0 hl
  go_enter Try.func22, Try.ntmps22
  go_wp2_with fail
  have e0 : W0.drew.cell? ⟨w.heap.size, 0, none⟩ = some (.slice p fs.length c) := x0
  have e1 : W0.drew.cell? ⟨w.heap.size + 1, 0, none⟩ = some (.int .u8 kk) := y0
  have e2 : W0.drew.cell? ⟨w.heap.size + 1, 1, none⟩ = some (.string nm) := y1
  have e3 : W0.drew.cell? ⟨w.heap.size + 1, 2, none⟩ = some (.string tt) := y2
  have e4 : W0.drew.cell? ⟨w.heap.size + 1, 3, none⟩ = some (.string dt) := y3
  go_region_held3 (fun w' => w'.cell? ⟨w.heap.size, 0, none⟩ = some (.slice p fs.length c) ∧ w'.cell? ⟨w.heap.size + 1, 0, none⟩ = some (.int .u8 kk) ∧ w'.cell? ⟨w.heap.size + 1, 1, none⟩ = some (.string nm) ∧ w'.cell? ⟨w.heap.size + 1, 2, none⟩ = some (.string tt) ∧ w'.cell? ⟨w.heap.size + 1, 3, none⟩ = some (.string dt))
    (first | (go_split_ands; refine ⟨?_, ?_, ?_, ?_, ?_⟩ <;> (first | (rw [hBa.cell (p := ⟨w.heap.size, _, none⟩) n0]; assumption) | (rw [hBa.cell (p := ⟨w.heap.size + 1, _, none⟩) n1]; assumption))) | go_keep)
    ((first
      | (go_at_call 33; refine C1.out.mono ?_; rintro e wa ⟨rfl, hMa, hBa⟩; have hlk := HL.out _ _ _ hMa)))
  have hBa' : Below W0.heap.size W0 wa := hBa
  obtain ⟨⟨a0, a1, a2⟩, _, hg⟩ := HX.out wa hBa'
  obtain ⟨Wa, Wb, Wc, hWa, hWb, hWc, ⟨oa, ca⟩, fa, ⟨ob, cb⟩, fb, ⟨oc, cc⟩, fc, hbl, _, d0, d1, d2⟩ := set_disk hg (.slice p fs.length c) (.bool true) (.int .i64 fu)
  have HB : Hid (Below w.heap.size w Wc) := hbl _ _ (HB0.out.trans (hBa'.mono HB0.out.size)) (by omega)
  clear hBa hBa' hMa hlk hg hbl C1 e0 e1 e2 e3 e4 x0 x1 x2 y0 y1 y2 y3
  go_wp2_with fail
  exact bodyPost_ret (v := .tuple #[.agg #[.slice p fs.length c, .bool true, .int .i64 fu], .int .i64 12]) (by simp [results, Try.results22, go_sem, d0, d1, d2]) rfl ⟨rfl, HB.out⟩
end Go.Proofs.Ytedjfbkpebmggaa
