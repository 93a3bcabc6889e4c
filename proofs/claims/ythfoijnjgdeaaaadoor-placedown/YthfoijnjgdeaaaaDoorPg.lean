/- A table's shards: what Split answers. -/
import Derived.Test.YthfoijnjgdeaaaaDoorPf
import Derived.Test.YthfoijnjgdeaaaaDoorTg
import Derived.Deep.RegionHeld3
namespace Go.Proofs.YthfoijnjgdeaaaaDoor
open Go.Shelf Go.RowKit Go.Lib Go.Sort
set_option linter.unusedVariables false
set_option linter.unusedSimpArgs false
attribute [local go_sem ↓] Go.wp_at_zero Go.wp_at_succ
theorem putB_range (h b : Int) : 0 ≤ putB h b ∧ putB h b < 18446744073709551616 := by
  unfold putB
  rw [IntKind.wrap_u64]
  omega
theorem putL_range : ∀ (l : List Int) (h : Int), 0 ≤ h ∧ h < 18446744073709551616 → 0 ≤ putL h l ∧ putL h l < 18446744073709551616
  | [], h, hh => hh
  | b :: l, h, _ => putL_range l (putB h b) (putB_range h b)
theorem hashV_range (x : Val) : 0 ≤ hashV x ∧ hashV x < 18446744073709551616 := putL_range _ _ (putB_range _ _)
theorem chk_ok (x : Val) (h : chkV x = 0) : x.k < 4 ∧ x.s.size ≤ 256 := by
  unfold chkV at h
  split at h
  · cases h
  · rename_i h1
    split at h
    · cases h
    · omega
theorem chkRow_ok : ∀ (xs : List Val) (ks : List Int), xs.length = ks.length → chkRow xs ks = 0 → ∀ x ∈ xs, chkV x = 0
  | [], _, _, _, x, hx => by simp at hx
  | y :: xs, [], hl, _, x, hx => by simp at hl
  | y :: xs, k :: ks, hl, h, x, hx => by
    unfold chkRow at h
    by_cases h0 : chkV y = 0
    · rw [if_pos h0] at h
      rcases List.mem_cons.1 hx with rfl | hx
      · exact h0
      · split at h
        · cases h
        · exact chkRow_ok xs ks (by simpa using hl) h x hx
    · rw [if_neg h0] at h; exact absurd h h0
theorem rowsGo_ok : ∀ (rs : List (List Val)) (cs : List Col), rowsGo rs cs = 0 → ∀ r ∈ rs, rowV r cs = 0
  | [], _, _, r, hr => by simp at hr
  | q :: rs, cs, h, r, hr => by
    unfold rowsGo at h
    by_cases h0 : rowV q cs = 0
    · rw [if_pos h0] at h
      rcases List.mem_cons.1 hr with rfl | hr
      · exact h0
      · exact rowsGo_ok rs cs h r hr
    · rw [if_neg h0] at h; exact absurd h h0
theorem table_ok {s : ByteArray} {cs : List Col} {rs : List (List Val)} (h : tableV s cs rs = 0) : rs.length ≤ 64 ∧ ∀ r ∈ rs, r ≠ [] ∧ r.length ≤ 8 ∧ ∀ x ∈ r, x.k < 4 ∧ x.s.size ≤ 256 := by
  unfold tableV at h
  by_cases h0 : nameV s = 0
  · rw [if_pos h0] at h
    by_cases h1 : colsV cs = 0
    · rw [if_pos h1] at h
      by_cases h2 : 64 < rs.length
      · rw [if_pos h2] at h; cases h
      · rw [if_neg h2] at h
        have hc : ¬ (cs.length = 0 ∨ 8 < cs.length) := fun hc => by unfold colsV at h1; rw [if_pos hc] at h1; cases h1
        refine ⟨by omega, fun r hr => ?_⟩
        have h3 := rowsGo_ok rs cs h r hr
        unfold rowV at h3
        by_cases h4 : r.length = cs.length
        · rw [if_pos h4] at h3
          refine ⟨fun e => by rw [e] at h4; simp at h4; omega, by omega, fun x hx => chk_ok x (chkRow_ok r _ (by simpa using h4) h3 x hx)⟩
        · rw [if_neg h4] at h3; cases h3
    · rw [if_neg h1] at h; exact absurd h h1
  · rw [if_neg h0] at h; exact absurd h h0
/-- The rows of a shard. -/
def partOf (S : Int) (rs : List (List Val)) (j : Nat) : List (List Val) := rs.filter fun r => decide (shd S r = (j : Int))
theorem partOf_step (S : Int) (rs : List (List Val)) (k : Nat) (hk : k < rs.length) (s : Nat) (hs : shd S rs[k] = (s : Int)) : partOf S (rs.take (k + 1)) = fun j => if j = s then partOf S (rs.take k) j ++ [rs[k]] else partOf S (rs.take k) j := by
  funext j
  unfold partOf
  rw [List.take_succ_eq_append_getElem hk, List.filter_append]
  by_cases e : j = s
  · subst e
    rw [if_pos rfl]
    simp [hs]
  · rw [if_neg e]
    have : decide (shd S rs[k] = (j : Int)) = false := decide_eq_false (by rw [hs]; omega)
    simp [this]
theorem partOf_len (S : Int) (rs : List (List Val)) (j : Nat) : (partOf S rs j).length ≤ rs.length := List.length_filter_le _ _
def splitE (N S R : Int) (nm : ByteArray) (cs : List Col) (rs : List (List Val)) : Int := if layE N S R = 0 then tableV nm cs rs else layE N S R
theorem rowA_row {w : World} {v : Value} {xs : List Val} (h : RowA w v xs) : RowV w v xs := by
  obtain ⟨p, c, rfl, hl, _, hp⟩ := h
  refine ⟨hl, ?_⟩
  by_cases h0 : 0 < xs.length
  · obtain ⟨b, o, rfl, hr, hb⟩ := hp h0
    exact .inr ⟨b, o, c, rfl, hr, hb⟩
  · have : xs = [] := List.eq_nil_of_length_eq_zero (by omega)
    subst this
    exact .inl ⟨p, c, rfl, rfl⟩
theorem RowsA.below {w W : World} {p : Option Addr} {rs : List (List Val)} (h : RowsA w p rs) (hb : Below w.heap.size w W) : RowsA W p rs := by
  refine ⟨h.1, fun h0 => ?_⟩
  obtain ⟨b, o, rfl, hlt, hc⟩ := h.2 h0
  refine ⟨b, o, rfl, Nat.lt_of_lt_of_le hlt hb.size, fun j hj => ?_⟩
  obtain ⟨q, m, d, h1, h2⟩ := hc j hj
  exact ⟨q, m, d, by rw [hb.cell (p := ⟨b, _, none⟩) hlt]; exact h1, h2.below hb⟩
theorem infoRows : ∃ i0, Tryd.prog.info? 27 = some i0 ∧ i0.zero = some (.slice none 0 0) ∧ i0.size = 1 ∧ i0.bytes = 24 := by
  have h1 : (Tryd.prog.info? 27).bind (·.zero) = some (.slice none 0 0) := by kernel_rfl
  have h2 : (Tryd.prog.info? 27).map (·.size) = some 1 := by kernel_rfl
  have h3 : (Tryd.prog.info? 27).map (·.bytes) = some 24 := by kernel_rfl
  generalize Tryd.prog.info? 27 = i at *
  cases i with
  | none => cases h1
  | some i => exact ⟨i, rfl, h1, Option.some.inj h2, Option.some.inj h3⟩
theorem two_below (w : World) (o1 o2 : Obj) : Below w.heap.size w ((w.alloc o1).alloc o2) := ((Below.refl _ _).alloc (Nat.le_refl _) _).alloc (by simp) _
theorem two_first (w : World) (vs : Array Value) (t : TypeId) (o : Obj) (i : Nat) (v : Value) (h : vs[i]? = some v) : ((w.alloc (.cells vs t)).alloc o).cell? ⟨w.heap.size, i, none⟩ = some v := by
  rw [World.cell?_of_block (w := w.alloc (.cells vs t)) (heap_alloc_old _ _ (by simp))]
  exact cell_box w vs t i v h
theorem two_second (w : World) (o : Obj) (vs : Array Value) (t : TypeId) (i : Nat) (v : Value) (h : vs[i]? = some v) : ((w.alloc o).alloc (.cells vs t)).cell? ⟨w.heap.size + 1, i, none⟩ = some v := by
  have := cell_box (w.alloc o) vs t i v h
  simpa using this
set_option maxRecDepth 100000 in
set_option maxHeartbeats 4000000 in
theorem split_bad (N S R : Int) (nm : ByteArray) (pc : Option Addr) (mc cc : Nat) (cs : List Col) (pr : Option Addr) (cr : Nat) (rs : List (List Val)) (w : World) (hs : nm.size ≤ 9223372036854775807) (hT : Lib.Utf8Tabs 0 1 w) (hc : ColA w (.slice pc mc cc) cs) (hr : RowsA w pr rs) (he : splitE N S R nm cs rs ≠ 0) :
    Calls Tryd.prog 13 #[.agg #[.int .i64 N, .int .i64 S, .int .i64 R], .agg #[.string nm, .slice pc mc cc, .slice pr rs.length cr]] w fun e w' => e = .returned (.tuple #[.slice none 0 0, .int .i64 (splitE N S R nm cs rs)]) ∧ Below w.heap.size w w' := by
  have C1 : Hid (∀ W, Calls Tryd.prog 18 #[.agg #[.int .i64 N, .int .i64 S, .int .i64 R]] W fun e w' => e = .returned (.int .i64 (layE N S R)) ∧ Below W.heap.size W w') := fun W => layCheck_any N S R W
  have C2 : Hid (∀ W, Below w.heap.size w W → Calls Tryd.prog 30 #[.agg #[.string nm, .slice pc mc cc, .slice pr rs.length cr]] W fun e w' => e = .returned (.int .i64 (tableV nm cs rs)) ∧ Below W.heap.size W w') := fun W h => table_core nm pc mc cc cs pr cr rs W hs (Utf8Tabs_below hT h) (hc.below h) (hr.below h) _ (show _ = _ from rfl)
  clear hc hr hT
  by_cases h0 : layE N S R = 0
  · rw [h0] at C1
    have e : splitE N S R nm cs rs = tableV nm cs rs := by unfold splitE; rw [if_pos h0]
    rw [e] at he ⊢
    obtain ⟨E, hE⟩ : ∃ E, tableV nm cs rs = E := ⟨_, rfl⟩
    rw [hE] at C2 he ⊢
    have hne : (E != 0) = true := bne_iff_ne.2 he
    clear e hE h0 he
    go_enter Tryd.func13, Tryd.ntmps13
    go_wp2_with fail
    refine (C1.out _).mono ?_
    rintro e w1 ⟨rfl, hb1⟩
    have y0 : w1.cell? ⟨w.heap.size + 1, 0, none⟩ = some (.string nm) := by rw [hb1.cell (by simp)]; exact two_second w _ _ _ _ _ rfl
    have y1 : w1.cell? ⟨w.heap.size + 1, 1, none⟩ = some (.slice pc mc cc) := by rw [hb1.cell (by simp)]; exact two_second w _ _ _ _ _ rfl
    have y2 : w1.cell? ⟨w.heap.size + 1, 2, none⟩ = some (.slice pr rs.length cr) := by rw [hb1.cell (by simp)]; exact two_second w _ _ _ _ _ rfl
    have HB : Hid (Below w.heap.size w w1) := (two_below w _ _).trans (hb1.mono (by simp; omega))
    clear hb1
    go_wp2_with fail
    refine (C2.out _ HB.out).mono ?_
    rintro e w2 ⟨rfl, hb2⟩
    have HB2 : Hid (Below w.heap.size w w2) := HB.out.trans (hb2.mono HB.out.size)
    clear hb2
    go_wp2_with fail
    go_ret2
    exact ⟨rfl, HB2.out⟩
  · have e : splitE N S R nm cs rs = layE N S R := by unfold splitE; rw [if_neg h0]
    rw [e]
    obtain ⟨L, hL⟩ : ∃ L, layE N S R = L := ⟨_, rfl⟩
    rw [hL] at C1 h0 ⊢
    have hne : (L != 0) = true := bne_iff_ne.2 h0
    clear e he h0 hL
    go_enter Tryd.func13, Tryd.ntmps13
    go_wp2_with fail
    refine (C1.out _).mono ?_
    rintro e w1 ⟨rfl, hb1⟩
    have HB : Hid (Below w.heap.size w w1) := (two_below w _ _).trans (hb1.mono (by simp; omega))
    clear hb1
    go_wp2_with fail
    go_ret2
    exact ⟨rfl, HB.out⟩
end Go.Proofs.YthfoijnjgdeaaaaDoor
